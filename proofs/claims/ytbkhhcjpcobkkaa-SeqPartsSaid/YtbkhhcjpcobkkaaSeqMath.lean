/- Numbers modulo 2^32 as the document has them: plain mathematics. -/
namespace Go.Proofs.Ytbkhhcjpcobkkaa.sq
set_option linter.unusedVariables false
def adz (a n : Int) : Int := (a + n) % 4294967296
def dif (a b : Int) : Int := (a - b + 2147483648) % 4294967296 - 2147483648
def ofs (x f : Int) : Int := (x - f) % 4294967296
theorem adz_bd (a n : Int) : 0 ≤ adz a n ∧ adz a n < 4294967296 := by unfold adz; omega
theorem dif_bd (a b : Int) : -2147483648 ≤ dif a b ∧ dif a b ≤ 2147483647 := by unfold dif; omega
theorem ofs_bd (a b : Int) : 0 ≤ ofs a b ∧ ofs a b < 4294967296 := by unfold ofs; omega
def lessB (a b : Int) : Bool := decide (dif a b < 0)
def inB (x f s : Int) : Bool := decide (ofs x f < s)
def up (x : Int) : Int := if x < 0 then 0 else x
theorem up_neg {x : Int} (h : x < 0) : up x = 0 := by unfold up; rw [if_pos h]
theorem up_pos {x : Int} (h : ¬ x < 0) : up x = x := by unfold up; rw [if_neg h]
/-- which way 'Clip' goes: 0 nothing, 1 nothing for what stands between, 2 something -/
def clipWay (S n f m : Int) : Nat := if n < 1 ∨ m < 1 ∨ dif S f = -2147483648 then 0 else if n ≤ up (dif f S) ∨ m ≤ up (dif S f) then 1 else 2
def lesser (x y : Int) : Int := if y < x then y else x
def clipA (S n f m : Int) : Int := if clipWay S n f m = 2 then up (dif f S) else 0
def clipK (S n f m : Int) : Int := if clipWay S n f m = 2 then lesser (n - up (dif f S)) (m - up (dif S f)) else 0
theorem clip_bd (S n f m : Int) : 0 ≤ clipA S n f m ∧ clipA S n f m ≤ 2147483647 ∧ 0 ≤ clipK S n f m ∧ (0 < clipK S n f m → clipA S n f m ≤ n - clipK S n f m ∧ clipK S n f m ≤ m) := by
  have h1 := dif_bd f S
  have h2 := dif_bd S f
  unfold clipA clipK
  by_cases h : clipWay S n f m = 2
  · rw [if_pos h, if_pos h]
    unfold clipWay at h
    unfold lesser
    by_cases c0 : n < 1 ∨ m < 1 ∨ dif S f = -2147483648
    · rw [if_pos c0] at h; omega
    · rw [if_neg c0] at h
      by_cases c1 : n ≤ up (dif f S) ∨ m ≤ up (dif S f)
      · rw [if_pos c1] at h; omega
      · have u1 : 0 ≤ up (dif f S) ∧ up (dif f S) ≤ 2147483647 := by unfold up; split <;> omega
        have u2 : 0 ≤ up (dif S f) := by unfold up; split <;> omega
        split <;> omega
  · rw [if_neg h, if_neg h]
    omega
/-- the document's 'Most' -/
def mostF (first : Int) : List Int → Int → Int
  | [], m => m
  | x :: l, m => mostF first l (if dif m first < dif x first then x else m)
theorem mostF_snoc (first : Int) : ∀ (l : List Int) (m x : Int), mostF first (l ++ [x]) m = if dif (mostF first l m) first < dif x first then x else mostF first l m
  | [], m, x => rfl
  | y :: l, m, x => mostF_snoc first l _ x
theorem mostF_ge (first : Int) : ∀ (l : List Int) (m : Int), dif m first ≤ dif (mostF first l m) first ∧ ∀ x ∈ l, dif x first ≤ dif (mostF first l m) first
  | [], m => ⟨Int.le_refl _, fun _ h => by cases h⟩
  | y :: l, m => by
    have ih := mostF_ge first l (if dif m first < dif y first then y else m)
    unfold mostF
    by_cases h : dif m first < dif y first
    · rw [if_pos h] at ih ⊢
      refine ⟨by omega, fun x hx => ?_⟩
      rcases List.mem_cons.1 hx with rfl | hx
      · exact ih.1
      · exact ih.2 x hx
    · rw [if_neg h] at ih ⊢
      refine ⟨by omega, fun x hx => ?_⟩
      rcases List.mem_cons.1 hx with rfl | hx
      · omega
      · exact ih.2 x hx
theorem mostF_mem (first : Int) : ∀ (l : List Int) (m : Int), mostF first l m = m ∨ mostF first l m ∈ l
  | [], m => Or.inl rfl
  | y :: l, m => by
    have ih := mostF_mem first l (if dif m first < dif y first then y else m)
    unfold mostF
    by_cases h : dif m first < dif y first
    · rw [if_pos h] at ih ⊢
      rcases ih with e | e
      · exact Or.inr (by rw [e]; exact List.mem_cons_self ..)
      · exact Or.inr (List.mem_cons_of_mem _ e)
    · rw [if_neg h] at ih ⊢
      exact ih.imp id (List.mem_cons_of_mem _)
theorem dif_self (a : Int) : dif a a = 0 := by unfold dif; omega
theorem mostF_first (first : Int) (l : List Int) : 0 ≤ dif (mostF first l first) first := by
  have := (mostF_ge first l first).1
  rw [dif_self] at this
  exact this
-- what follows
theorem adz_dif (a b : Int) (h0 : 0 ≤ a) (h1 : a < 4294967296) : adz b (dif a b) = a := by unfold adz dif; omega
theorem dif_adz (a n : Int) (h0 : -2147483648 ≤ n) (h1 : n < 2147483648) : dif (adz a n) a = n := by unfold adz dif; omega
theorem dif_moved (a b n : Int) : dif (adz a n) (adz b n) = dif a b := by unfold adz dif; omega
theorem ofs_moved (a b n : Int) : ofs (adz a n) (adz b n) = ofs a b := by unfold adz ofs; omega
theorem clipWay_moved (S n f m d : Int) : clipWay (adz S d) n (adz f d) m = clipWay S n f m := by unfold clipWay; rw [dif_moved, dif_moved]
theorem clipA_moved (S n f m d : Int) : clipA (adz S d) n (adz f d) m = clipA S n f m := by unfold clipA; rw [dif_moved, clipWay_moved]
theorem clipK_moved (S n f m d : Int) : clipK (adz S d) n (adz f d) m = clipK S n f m := by unfold clipK; rw [dif_moved, dif_moved, clipWay_moved]
theorem inB_moved (x f s n : Int) : inB (adz x n) (adz f n) s = inB x f s := by unfold inB; rw [ofs_moved]
theorem one_ahead (a b : Int) (a0 : 0 ≤ a) (a1 : a < 4294967296) (b0 : 0 ≤ b) (b1 : b < 4294967296) :
    (lessB a b = lessB b a ∧ (a = b ∨ ofs a b = 2147483648)) ∨ (lessB a b = !lessB b a ∧ a ≠ b ∧ ofs a b ≠ 2147483648) := by
  unfold lessB
  by_cases h : a = b ∨ ofs a b = 2147483648
  · refine Or.inl ⟨?_, h⟩
    congr 1
    unfold ofs at h
    unfold dif
    rw [eq_iff_iff]
    omega
  · refine Or.inr ⟨?_, fun e => h (Or.inl e), fun e => h (Or.inr e)⟩
    rw [← decide_not]
    congr 1
    unfold ofs at h
    unfold dif
    rw [eq_iff_iff]
    omega
theorem half_dif (a b : Int) : dif a b = -2147483648 ↔ ofs a b = 2147483648 := by unfold dif ofs; omega
theorem dif_turn (a b : Int) (h : dif a b ≠ -2147483648) : dif b a = - dif a b := by unfold dif at *; omega
theorem clipped (S n f m i : Int) (n0 : 1 ≤ n) (n1 : n ≤ 1073741824) (m0 : 1 ≤ m) (m1 : m ≤ 1073741824) (d0 : -1073741824 ≤ dif S f) (d1 : dif S f ≤ 1073741824) (i0 : 0 ≤ i) (i1 : i < n) :
    inB (adz S i) f m = decide (clipA S n f m ≤ i ∧ i < clipA S n f m + clipK S n f m) := by
  have ht := dif_turn S f (by omega)
  have ho : ofs (adz S i) f = (dif S f + i) % 4294967296 := by unfold ofs adz dif; omega
  unfold inB clipA clipK
  congr 1
  rw [ho, eq_iff_iff]
  unfold clipWay
  rw [ht]
  generalize dif S f = d at *
  have hw : ¬ (n < 1 ∨ m < 1 ∨ d = -2147483648) := by omega
  rw [if_neg hw]
  unfold up lesser
  by_cases h : d < 0
  · rw [if_pos h]
    rw [if_neg (show ¬ -d < 0 by omega)]
    by_cases c : n ≤ -d ∨ m ≤ 0
    · rw [if_pos c]; simp; omega
    · rw [if_neg c]; simp; split <;> omega
  · rw [if_neg h]
    by_cases h2 : -d < 0
    · rw [if_pos h2]
      by_cases c : n ≤ 0 ∨ m ≤ d
      · rw [if_pos c]; simp; omega
      · rw [if_neg c]; simp; split <;> omega
    · rw [if_neg h2]
      by_cases c : n ≤ -d ∨ m ≤ d
      · rw [if_pos c]; simp; omega
      · rw [if_neg c]; simp; split <;> omega
theorem parts (x f a b : Int) (a0 : 0 ≤ a) (a1 : a ≤ 2147483648) (b0 : 0 ≤ b) (b1 : b ≤ 2147483648) : inB x f (a + b) = (inB x f a || inB x (adz f a) b) := by
  unfold inB
  rw [Bool.eq_iff_iff]
  simp only [Bool.or_eq_true, decide_eq_true_eq]
  unfold ofs adz
  omega
end Go.Proofs.Ytbkhhcjpcobkkaa.sq
