/- The plain numbers of layer 2: how many bytes a number has, and which. -/
import Derived.WalkKit
namespace Go.Proofs.YtbcgnacfhpahkaaDoor.OM

def pw (k : Nat) : Nat := 2 ^ (7 * (k + 1))
/-- how many bytes follow a number's first one: the least k below 8 such that u is below 2 to the 7(k + 1); 8 if none is -/
def folA (u : Nat) : Nat → Nat
  | 0 => 8
  | f + 1 => if u < pw (8 - (f + 1)) then 8 - (f + 1) else folA u f
def fol (u : Nat) : Nat := folA u 8
theorem folA_spec (u f : Nat) (hf : f ≤ 8) : 8 - f ≤ folA u f ∧ folA u f ≤ 8 ∧ (∀ j, 8 - f ≤ j → j < folA u f → pw j ≤ u) ∧ (folA u f ≠ 8 → u < pw (folA u f)) := by
  induction f with
  | zero => simp [folA]; omega
  | succ f ih =>
    have ih := ih (by omega)
    unfold folA
    by_cases h : u < pw (8 - (f + 1))
    · rw [if_pos h]
      exact ⟨by omega, by omega, fun j h1 h2 => by omega, fun _ => h⟩
    · rw [if_neg h]
      refine ⟨by omega, by omega, fun j h1 h2 => ?_, ih.2.2.2⟩
      by_cases hj : j = 8 - (f + 1)
      · subst hj; omega
      · exact ih.2.2.1 j (by omega) h2
theorem fol_le (u : Nat) : fol u ≤ 8 := (folA_spec u 8 (by omega)).2.1
theorem fol_lt (u : Nat) (h : fol u ≠ 8) : u < pw (fol u) := (folA_spec u 8 (by omega)).2.2.2 h
theorem fol_ge (u k : Nat) (h : k < fol u) : pw k ≤ u := (folA_spec u 8 (by omega)).2.2.1 k (by omega) h
theorem pw_mono {i j : Nat} (h : i ≤ j) : pw i ≤ pw j := Nat.pow_le_pow_right (by omega) (by omega)
theorem fol_eq (u k : Nat) (hk : k ≤ 8) (h : ∀ j, j < k → pw j ≤ u) (h2 : k = 8 ∨ u < pw k) : fol u = k := by
  have h8 := fol_le u
  rcases Nat.lt_trichotomy (fol u) k with hl | he | hg
  · have := fol_lt u (by omega)
    have := h _ hl
    omega
  · exact he
  · have := fol_ge u k hg
    omega

/-- what stands in the first byte ahead of the number -/
def lead (k : Nat) : Nat := 256 - 2 ^ (8 - k)
/-- the k bytes behind the first one -/
def tl (u k j : Nat) : List UInt8 := (List.range j).map fun i => UInt8.ofNat (u / 256 ^ (k - 1 - i))
/-- a number's first byte -/
def hd (u : Nat) : Nat := lead (fol u) + u / 256 ^ fol u
def numB (u : Nat) : List UInt8 := UInt8.ofNat (hd u) :: tl u (fol u) (fol u)

theorem tl_len (u k j : Nat) : (tl u k j).length = j := by simp [tl]
theorem numB_len (u : Nat) : (numB u).length = fol u + 1 := by simp [numB, tl_len]
theorem tl_snoc (u k j : Nat) : tl u k (j + 1) = tl u k j ++ [UInt8.ofNat (u / 256 ^ (k - 1 - j))] := by
  simp [tl, List.range_succ]
theorem tl_cons (u j : Nat) : tl u (j + 1) (j + 1) = UInt8.ofNat (u / 256 ^ j) :: tl u j j := by
  unfold tl
  rw [List.range_succ_eq_map, List.map_cons, List.map_map]
  congr 1
  apply List.map_congr_left
  intro i hi
  have := List.mem_range.1 hi
  simp only [Function.comp]
  congr 3
  omega

theorem hd_lt (u : Nat) (h : u < 2 ^ 63) : hd u < 256 ∧ u / 256 ^ fol u < 2 ^ (8 - fol u) ∧ (fol u < 8 → u / 256 ^ fol u < 2 ^ (7 - fol u)) := by
  have hl := fol_lt u
  have h8 := fol_le u
  unfold hd lead
  generalize fol u = k at *
  simp only [pw] at hl
  match k, h8 with
  | 0, _ => simp at *; omega
  | 1, _ => simp at *; omega
  | 2, _ => simp at *; omega
  | 3, _ => simp at *; omega
  | 4, _ => simp at *; omega
  | 5, _ => simp at *; omega
  | 6, _ => simp at *; omega
  | 7, _ => simp at *; omega
  | 8, _ => simp at *; omega
theorem tl_val (u m : Nat) : ((u : Int) / 2 ^ (8 * m) % 256) = ((UInt8.ofNat (u / 256 ^ m)).toNat : Int) := by
  have e : ((u : Int) / 2 ^ (8 * m)) = ((u / 256 ^ m : Nat) : Int) := by
    rw [show (256 : Nat) = 2 ^ 8 from rfl, ← Nat.pow_mul]
    simp
  rw [e, UInt8.toNat_ofNat']
  generalize u / 256 ^ m = y
  omega

theorem byte_val (y : Nat) : ((y : Int) % 256) = ((UInt8.ofNat y).toNat : Int) := by
  rw [UInt8.toNat_ofNat']
  omega
theorem hd_val (u Y : Nat) (h : u ≤ 9223372036854775807) (hY : Y = u / 256 ^ fol u) : lead (fol u) + Y = hd u ∧ hd u < 256 := by
  subst hY
  exact ⟨rfl, (hd_lt u (by omega)).1⟩

theorem lead_or (k y : Nat) (hk : k ≤ 8) (hy : y < 2 ^ (8 - k)) : (lead k ||| y) = lead k + y ∧ lead k < 256 := by
  have e : lead k = 2 ^ (8 - k) * (2 ^ k - 1) := by
    unfold lead
    match k, hk with
    | 0, _ => rfl
    | 1, _ => rfl
    | 2, _ => rfl
    | 3, _ => rfl
    | 4, _ => rfl
    | 5, _ => rfl
    | 6, _ => rfl
    | 7, _ => rfl
    | 8, _ => rfl
  have h2 : lead k < 256 := by
    unfold lead
    have : 0 < 2 ^ (8 - k) := Nat.pow_pos (by omega)
    omega
  refine ⟨?_, h2⟩
  rw [e, Nat.two_pow_add_eq_or_of_lt hy]

theorem hd_or (u k : Nat) (hk : k = fol u) (hu : u < 9223372036854775808) :
    bits BinOp.or IntKind.u8 (bits BinOp.xor IntKind.u8 (if IntKind.u8.signed = true then -1 else IntKind.u8.max) (255 / 2 ^ k)) (IntKind.u8.wrap ((u : Int) / 2 ^ (8 * (k : Int)).toNat)) = ((UInt8.ofNat (hd u)).toNat : Int) := by
  have h8 := fol_le u
  have hh := hd_lt u hu
  rw [← hk] at h8 hh
  have e1 : bits BinOp.xor IntKind.u8 (if IntKind.u8.signed = true then -1 else IntKind.u8.max) (255 / 2 ^ k) = ((lead k : Nat) : Int) := by
    match k, h8 with
    | 0, _ => decide
    | 1, _ => decide
    | 2, _ => decide
    | 3, _ => decide
    | 4, _ => decide
    | 5, _ => decide
    | 6, _ => decide
    | 7, _ => decide
    | 8, _ => decide
  have e2 : ((u : Int) / 2 ^ (8 * (k : Int)).toNat) = ((u / 256 ^ k : Nat) : Int) := by
    have : (8 * (k : Int)).toNat = 8 * k := by omega
    rw [this, show (256 : Nat) = 2 ^ 8 from rfl, ← Nat.pow_mul]
    simp
  have hlt : u / 256 ^ k < 256 := by
    have : (2 : Nat) ^ (8 - k) ≤ 2 ^ 8 := Nat.pow_le_pow_right (by omega) (by omega)
    omega
  have e3 : IntKind.u8.wrap ((u / 256 ^ k : Nat) : Int) = ((u / 256 ^ k : Nat) : Int) := by
    rw [IntKind.wrap_u8]
    generalize u / 256 ^ k = y at hlt
    omega
  obtain ⟨e4, h4⟩ := lead_or k (u / 256 ^ k) h8 hh.2.1
  rw [e1, e2, e3, u8_or_nat _ _ h4 hlt, e4]
  have hd1 : hd u = lead k + u / 256 ^ k := by unfold hd; rw [← hk]
  rw [← hd1, UInt8.toNat_ofNat_of_lt' (show hd u < UInt8.size from hh.1)]
/-- any numbers, one behind the other -/
def numsB : List Int → List UInt8
  | [] => []
  | x :: l => numB x.toNat ++ numsB l
theorem numsB_snoc (l : List Int) (x : Int) : numsB (l ++ [x]) = numsB l ++ numB x.toNat := by
  induction l with
  | nil => simp [numsB]
  | cons y l ih => simp [numsB, ih]
theorem numB_le (u : Nat) : (numB u).length ≤ 9 := by rw [numB_len]; have := fol_le u; omega
theorem numsB_le (l : List Int) : (numsB l).length ≤ 9 * l.length := by
  induction l with
  | nil => simp [numsB]
  | cons y l ih => simp only [numsB, List.length_append, List.length_cons]; have := numB_le y.toNat; omega
theorem take_snoc {α : Type} (l : List α) (k : Nat) (h : k < l.length) : l.take (k + 1) = l.take k ++ [l[k]] := by
  rw [List.take_succ_eq_append_getElem h]
theorem size_cases (u f : Nat) (hff : f = fol u) : (f = 0 ∧ (u : Int) < 128) ∨ (f = 1 ∧ 128 ≤ (u : Int) ∧ (u : Int) < 16384) ∨ (f = 2 ∧ 16384 ≤ (u : Int) ∧ (u : Int) < 2097152) ∨ (f = 3 ∧ 2097152 ≤ (u : Int) ∧ (u : Int) < 268435456) ∨ (f = 4 ∧ 268435456 ≤ (u : Int) ∧ (u : Int) < 34359738368) ∨ (f = 5 ∧ 34359738368 ≤ (u : Int) ∧ (u : Int) < 4398046511104) ∨ (f = 6 ∧ 4398046511104 ≤ (u : Int) ∧ (u : Int) < 562949953421312) ∨ (f = 7 ∧ 562949953421312 ≤ (u : Int) ∧ (u : Int) < 72057594037927936) ∨ (f = 8 ∧ 72057594037927936 ≤ (u : Int)) := by
  have h8 := fol_le u
  rcases (by omega : f = 0 ∨ f = 1 ∨ f = 2 ∨ f = 3 ∨ f = 4 ∨ f = 5 ∨ f = 6 ∨ f = 7 ∨ f = 8) with e | e | e | e | e | e | e | e | e
  · have hf : fol u = 0 := by omega
    clear h8
    subst e
    have h2 : u < 128 := by have := fol_lt u (by omega); rw [hf] at this; simpa [pw] using this
    exact Or.inl ⟨rfl, by omega⟩
  · have hf : fol u = 1 := by omega
    clear h8
    subst e
    have h1 : 128 ≤ u := by have := fol_ge u 0 (by omega); simpa [pw] using this
    have h2 : u < 16384 := by have := fol_lt u (by omega); rw [hf] at this; simpa [pw] using this
    exact Or.inr (Or.inl ⟨rfl, by omega, by omega⟩)
  · have hf : fol u = 2 := by omega
    clear h8
    subst e
    have h1 : 16384 ≤ u := by have := fol_ge u 1 (by omega); simpa [pw] using this
    have h2 : u < 2097152 := by have := fol_lt u (by omega); rw [hf] at this; simpa [pw] using this
    exact Or.inr (Or.inr (Or.inl ⟨rfl, by omega, by omega⟩))
  · have hf : fol u = 3 := by omega
    clear h8
    subst e
    have h1 : 2097152 ≤ u := by have := fol_ge u 2 (by omega); simpa [pw] using this
    have h2 : u < 268435456 := by have := fol_lt u (by omega); rw [hf] at this; simpa [pw] using this
    exact Or.inr (Or.inr (Or.inr (Or.inl ⟨rfl, by omega, by omega⟩)))
  · have hf : fol u = 4 := by omega
    clear h8
    subst e
    have h1 : 268435456 ≤ u := by have := fol_ge u 3 (by omega); simpa [pw] using this
    have h2 : u < 34359738368 := by have := fol_lt u (by omega); rw [hf] at this; simpa [pw] using this
    exact Or.inr (Or.inr (Or.inr (Or.inr (Or.inl ⟨rfl, by omega, by omega⟩))))
  · have hf : fol u = 5 := by omega
    clear h8
    subst e
    have h1 : 34359738368 ≤ u := by have := fol_ge u 4 (by omega); simpa [pw] using this
    have h2 : u < 4398046511104 := by have := fol_lt u (by omega); rw [hf] at this; simpa [pw] using this
    exact Or.inr (Or.inr (Or.inr (Or.inr (Or.inr (Or.inl ⟨rfl, by omega, by omega⟩)))))
  · have hf : fol u = 6 := by omega
    clear h8
    subst e
    have h1 : 4398046511104 ≤ u := by have := fol_ge u 5 (by omega); simpa [pw] using this
    have h2 : u < 562949953421312 := by have := fol_lt u (by omega); rw [hf] at this; simpa [pw] using this
    exact Or.inr (Or.inr (Or.inr (Or.inr (Or.inr (Or.inr (Or.inl ⟨rfl, by omega, by omega⟩))))))
  · have hf : fol u = 7 := by omega
    clear h8
    subst e
    have h1 : 562949953421312 ≤ u := by have := fol_ge u 6 (by omega); simpa [pw] using this
    have h2 : u < 72057594037927936 := by have := fol_lt u (by omega); rw [hf] at this; simpa [pw] using this
    exact Or.inr (Or.inr (Or.inr (Or.inr (Or.inr (Or.inr (Or.inr (Or.inl ⟨rfl, by omega, by omega⟩)))))))
  · have hf : fol u = 8 := by omega
    clear h8
    subst e
    have h1 : 72057594037927936 ≤ u := by have := fol_ge u 7 (by omega); simpa [pw] using this
    exact Or.inr (Or.inr (Or.inr (Or.inr (Or.inr (Or.inr (Or.inr (Or.inr (⟨rfl, by omega⟩))))))))
end Go.Proofs.YtbcgnacfhpahkaaDoor.OM
