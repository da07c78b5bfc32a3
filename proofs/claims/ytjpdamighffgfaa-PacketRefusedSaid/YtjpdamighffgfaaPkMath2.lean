/- Packets as bytes: what follows of the bytes' form. Plain mathematics. -/
import Derived.Test.YtjpdamighffgfaaPkMath
namespace Go.Proofs.Ytjpdamighffgfaa.PM
open SM
set_option linter.unusedVariables false
theorem numB_lt4 (l : List UInt8) (h : l.length ≤ 4) : numB l < 4294967296 := by
  have h2 : 256 ^ l.length ≤ 256 ^ 4 := Nat.pow_le_pow_right (by omega) h
  exact Nat.lt_of_lt_of_le (numB_lt l) h2
theorem parse1_u32 (b : List UInt8) : u32P (parse1 b) := by
  have h1 := numB_lt4 (cutB b 8 4) (by simp [cutB]; omega)
  have h2 := numB_lt4 (cutB b 12 4) (by simp [cutB]; omega)
  exact ⟨⟨Int.natCast_nonneg _, (Int.ofNat_lt.2 h1 : ((numB (cutB b 8 4) : Nat) : Int) < ((4294967296 : Nat) : Int))⟩, ⟨Int.natCast_nonneg _, (Int.ofNat_lt.2 h2 : ((numB (cutB b 12 4) : Nat) : Int) < ((4294967296 : Nat) : Int))⟩⟩
theorem parse2_u32 (b : List UInt8) : u32P (parse2 b) := by
  have h1 := numB_lt4 (cutB b 8 4) (by simp [cutB]; omega)
  have h2 := numB_lt4 (cutB b 12 4) (by simp [cutB]; omega)
  exact ⟨⟨Int.natCast_nonneg _, (Int.ofNat_lt.2 h1 : ((numB (cutB b 8 4) : Nat) : Int) < ((4294967296 : Nat) : Int))⟩, ⟨Int.natCast_nonneg _, (Int.ofNat_lt.2 h2 : ((numB (cutB b 12 4) : Nat) : Int) < ((4294967296 : Nat) : Int))⟩⟩
/-- both ways of reading tell the same -/
theorem isP_both (b : List UInt8) : isP (parse2 b) b ↔ isP (parse1 b) b := by
  constructor
  · rintro ⟨h1, h2⟩
    have := parse1_put (parse2 b) h1 (parse2_u32 b)
    rw [h2] at this
    rw [this]
    exact ⟨h1, h2⟩
  · rintro ⟨h1, h2⟩
    have := parse2_put (parse1 b) h1 (parse1_u32 b)
    rw [h2] at this
    rw [this]
    exact ⟨h1, h2⟩
theorem parse_both (b : List UInt8) (h : isP (parse1 b) b) : parse2 b = parse1 b := by
  have := parse2_put (parse1 b) h.1 (parse1_u32 b)
  rw [h.2] at this
  exact this
/-- a negative probe is none that may be -/
theorem probe2_ok (b : List UInt8) (h : isP (parse1 b) b) : 0 ≤ probe2 (opts b) := by
  have e := parse_both b h
  have : (parse2 b).probe = (parse1 b).probe := by rw [e]
  show 0 ≤ (parse2 b).probe
  rw [this]
  exact h.1.2.2.2.2.2.2.2.1.1
theorem put_inj (p q : Pk) (hp : okP p) (hu : u32P p) (hq : okP q) (hv : u32P q) (h : putB p = putB q) : p = q := by
  rw [← parse1_put p hp hu, h, parse1_put q hq hv]
theorem put2_mid (l r : List UInt8) (x y : UInt8) (j N : Nat) (h : l.length = 2 * j) : put2 (l ++ (x :: y :: r)) j N = l ++ (UInt8.ofNat (N / 256) :: UInt8.ofNat N :: r) := by
  unfold put2
  rw [← h, List.set_append_right _ _ (Nat.le_refl _), Nat.sub_self, List.set_append_right _ _ (by omega)]
  have : l.length + 1 - l.length = 1 := by omega
  rw [this]
  rfl
theorem ofNat_mod (N : Nat) : UInt8.ofNat N = b8 (N : Int) := by
  apply UInt8.toNat_inj.1
  have := b8_nat (N : Int)
  have h2 : (UInt8.ofNat N).toNat = N % 256 := by simp
  omega
theorem put_valid (p : Pk) : valid (putB p) := by
  have hl := frontB_len p
  have h := holds_valid (blankB p) 9 (by rw [blankB_len]; omega)
  have e0 : blankB p = frontB p ++ (0 :: 0 :: tailB p) := by simp [blankB]
  have e1 : put2 (blankB p) 9 0 = blankB p := by
    rw [e0, put2_mid _ _ _ _ 9 0 (by omega)]
    rfl
  rw [e1] at h
  have e2 : put2 (blankB p) 9 (inet [blankB p]) = putB p := by
    rw [e0, put2_mid _ _ _ _ 9 _ (by omega), ← e0]
    unfold putB sumP
    rw [bigB2, ofNat_mod, ofNat_mod]
    have : ((inet [blankB p] / 256 : Nat) : Int) = (inet [blankB p] : Int) / 256 := by omega
    rw [this]
    simp
  rw [e2] at h
  exact h
/-- what is put is got -/
theorem err_put (p : Pk) (hp : okP p) (hu : u32P p) : errOf (putB p) = 0 ∧ parse1 (putB p) = p := by
  have h1 := parse1_put p hp hu
  refine ⟨?_, h1⟩
  unfold errOf
  rw [dataAt_put, putB_len]
  rw [if_neg (by omega), if_neg (fun h => h (put_valid p)), if_neg (by have := hp.2.2.2.2.2.2.2.2.2; omega), h1, if_pos ⟨hp, rfl⟩]
theorem pk_put (p : Pk) (hp : okP p) (hu : u32P p) : pkOf (putB p) = p := by
  have := err_put p hp hu
  unfold pkOf
  rw [if_pos this.1, this.2]
theorem err_zero (b : List UInt8) (h : errOf b = 0) : okP (parse1 b) ∧ putB (parse1 b) = b ∧ pkOf b = parse1 b := by
  have h2 : pkOf b = parse1 b := by unfold pkOf; rw [if_pos h]
  unfold errOf at h
  split at h
  · cases h
  · split at h
    · cases h
    · split at h
      · cases h
      · split at h
        · rename_i h3; exact ⟨h3.1, h3.2, h2⟩
        · cases h
theorem err_cases (b : List UInt8) : (errOf b = 0 ∧ pkOf b = parse1 b) ∨ (errOf b ≠ 0 ∧ pkOf b = Pk.none) := by
  by_cases h : errOf b = 0
  · exact Or.inl ⟨h, by unfold pkOf; rw [if_pos h]⟩
  · exact Or.inr ⟨h, by unfold pkOf; rw [if_neg h]⟩
-- a byte that is another one
theorem ws_set : ∀ (l : List UInt8) (f : Bool) (i : Nat) (x : UInt8) (h : i < l.length), ws f (l.set i x) + (if (f == decide (i % 2 = 0)) then 256 * (l[i]).toNat else (l[i]).toNat) = ws f l + (if (f == decide (i % 2 = 0)) then 256 * x.toNat else x.toNat)
  | [], _, _, _, h => by simp at h
  | a :: l, f, 0, x, h => by
    simp only [List.set_cons_zero, ws, List.getElem_cons_zero]
    cases f <;> simp <;> omega
  | a :: l, f, i + 1, x, h => by
    have ih := ws_set l (!f) i x (by simpa using h)
    simp only [List.set_cons_succ, ws, List.getElem_cons_succ]
    have e : (f == decide ((i + 1) % 2 = 0)) = ((!f) == decide (i % 2 = 0)) := by
      have : decide ((i + 1) % 2 = 0) = !decide (i % 2 = 0) := by
        rw [← decide_not]; congr 1; rw [eq_iff_iff]; omega
      rw [this]
      cases f <;> cases decide (i % 2 = 0) <;> rfl
    rw [e]
    cases hb : ((!f) == decide (i % 2 = 0)) <;> simp only [hb, if_true, Bool.false_eq_true, if_false] at ih ⊢ <;> omega
theorem valid_iff (b : List UInt8) : valid b ↔ ws true b % 65535 = 0 := by
  unfold valid
  rw [inet_one]
  have h1 := fd_mod (ws true b)
  have h2 := fd_le (ws true b)
  constructor
  · intro h; omega
  · intro h
    rcases fd_valid _ h with e | e <;> omega
theorem turned (b : List UInt8) (hv : valid b) (i : Nat) (x : UInt8) (h : i < b.length) (hx : x ≠ b[i]) : errOf (b.set i x) ≠ 0 := by
  intro he
  have hs := ws_set b true i x h
  have hne : x.toNat ≠ (b[i]).toNat := fun e => hx (UInt8.toNat_inj.1 e)
  have hx1 := UInt8.toNat_lt x
  have hx2 := UInt8.toNat_lt b[i]
  have hv1 := (valid_iff b).1 hv
  have hn : ¬ valid (b.set i x) := by
    rw [valid_iff]
    split at hs <;> omega
  unfold errOf at he
  rw [if_pos hn] at he
  split at he <;> cases he
theorem short (b : List UInt8) (h : b.length < 22) : errOf b = 2 ∧ pkOf b = Pk.none := by
  have : errOf b = 2 := by unfold errOf; rw [if_pos (by unfold dataAt; omega)]
  exact ⟨this, by unfold pkOf; rw [this]; rfl⟩
-- another probe
theorem probed_ok (p : Pk) (n : Int) (hp : okP p) (h0 : 0 ≤ n) (h1 : n ≤ 1099511627776) : okP { p with probe := n } := by
  obtain ⟨h1', h2, h3, h4, h5, h6, h7, h8, h9, h10⟩ := hp
  exact ⟨h1', h2, h3, h4, h5, h6, h7, ⟨h0, h1⟩, h9, h10⟩
end Go.Proofs.Ytjpdamighffgfaa.PM
