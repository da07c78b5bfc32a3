/- Layer 7: what tokens tell, token by token. No program is named here. -/
import Derived.Test.YtbcgnacfhpahkaaDoorLzMath
namespace Go.Proofs.YtbcgnacfhpahkaaDoor.LM
open OM
theorem inR_size (l : List UInt8) (lo hi : Int) : (inR l lo hi).2.1 ≤ l.length ∧ ((inR l lo hi).2.2 = 0 → lk l = inR l lo hi ∧ lo ≤ ((inR l lo hi).1 : Int) ∧ ((inR l lo hi).1 : Int) ≤ hi) := by
  unfold inR
  split
  · simp
  · rename_i h
    refine ⟨?_, fun h0 => ⟨rfl, by omega⟩⟩
    rcases look_err (l := l) with h1 | ⟨h1, _⟩
    · have e : lk l = ((lk l).1, (lk l).2.1, 0) := by rw [← h1]
      exact (look_ok e).2.2.1
    · rw [h1]; exact Nat.zero_le _
/-- a token's head that may be -/
theorem headR_ok {x : UInt8} {t : List UInt8} {there : Nat} (h : (headR x t there).2.2.2 = 0) :
    (x.toNat < 128 ∧ headR x t there = (x.toNat + 1, 0, 0, 0) ∧ x.toNat + 1 ≤ t.length) ∨
    (128 ≤ x.toNat ∧ x.toNat ≤ 191 ∧ ∃ back s, headR x t there = (x.toNat - 125, back, s, 0) ∧ 1 ≤ back ∧ back ≤ 512 ∧ back ≤ there ∧ lk t = (back, s, 0) ∧ s ≤ t.length) := by
  unfold headR at h ⊢
  by_cases h1 : x.toNat < 128
  · rw [if_pos h1] at h ⊢
    by_cases h2 : t.length < x.toNat + 1
    · rw [if_pos h2] at h; simp at h
    · rw [if_neg h2] at h ⊢
      exact Or.inl ⟨h1, rfl, by omega⟩
  · rw [if_neg h1] at h ⊢
    have hs := inR_size t 1 ((min 512 there : Nat) : Int)
    generalize inR t 1 ((min 512 there : Nat) : Int) = q at *
    obtain ⟨n, s, e⟩ := q
    simp only at *
    by_cases h2 : e = 2
    · rw [if_pos h2] at h; simp at h
    · rw [if_neg h2] at h ⊢
      by_cases h3 : e ≠ 0 ∨ 66 < x.toNat - 125
      · rw [if_pos h3] at h; simp at h
      · rw [if_neg h3]
        have h4 : e = 0 := by omega
        subst h4
        obtain ⟨h5, h6, h7⟩ := hs.2 rfl
        exact Or.inr ⟨by omega, by omega, n, s, rfl, by omega, by omega, by omega, h5, hs.1⟩
theorem headR_bad {x : UInt8} {t : List UInt8} {there : Nat} (h : (headR x t there).2.2.2 ≠ 0) : (headR x t there).2.2.2 = 2 ∨ (headR x t there).2.2.2 = 70 := by
  unfold headR at h ⊢
  split
  · split
    · exact Or.inl rfl
    · rename_i h1 h2; rw [if_pos h1, if_neg h2] at h; exact absurd rfl h
  · split
    · exact Or.inl rfl
    · split
      · exact Or.inr rfl
      · rename_i h1 h2 h3; rw [if_neg h1, if_neg h2, if_neg h3] at h; exact absurd rfl h
theorem reA_any (most : Int) : ∀ (f g : Nat) (bs out : List UInt8), bs.length < f → bs.length < g → reA most f bs out = reA most g bs out := by
  intro f
  induction f with
  | zero => intro g bs out h; omega
  | succ f ih =>
    intro g bs out h1 h2
    cases g with
    | zero => omega
    | succ g =>
      cases bs with
      | nil => rfl
      | cons x t =>
        simp only [List.length_cons] at h1 h2
        simp only [reA]
        split
        · rfl
        · split
          · rfl
          · split
            · exact ih _ _ _ (by rw [List.length_drop]; omega) (by rw [List.length_drop]; omega)
            · exact ih _ _ _ (by rw [List.length_drop]; omega) (by rw [List.length_drop]; omega)
/-- what is told behind what was -/
def re (most : Int) (bs out : List UInt8) : List UInt8 × Nat := reA most (bs.length + 1) bs out
theorem reB_re (b : List UInt8) (most : Int) : reB b most = re most b [] := rfl
theorem re_nil (most : Int) (out : List UInt8) : re most [] out = (out, 0) := rfl
theorem re_bad {most : Int} {x : UInt8} {t out : List UInt8} (h : (headR x t out.length).2.2.2 ≠ 0) : re most (x :: t) out = ([], (headR x t out.length).2.2.2) := by
  unfold re
  simp only [reA]
  rw [if_pos h]
theorem re_cap {most : Int} {x : UInt8} {t out : List UInt8} (h : (headR x t out.length).2.2.2 = 0) (h2 : most < (out.length + (headR x t out.length).1 : Nat)) : re most (x :: t) out = ([], 71) := by
  unfold re
  simp only [reA]
  rw [if_neg (by omega), if_pos h2]
theorem re_lit {most : Int} {x : UInt8} {t out : List UInt8} (h1 : x.toNat < 128) (h3 : x.toNat + 1 ≤ t.length) (h2 : ¬ most < (out.length + (x.toNat + 1) : Nat)) : re most (x :: t) out = re most (t.drop (x.toNat + 1)) (out ++ t.take (x.toNat + 1)) := by
  have e : headR x t out.length = (x.toNat + 1, 0, 0, 0) := by unfold headR; rw [if_pos h1, if_neg (by omega)]
  unfold re
  rw [show reA most ((x :: t).length + 1) (x :: t) out = if (headR x t out.length).2.2.2 ≠ 0 then ([], (headR x t out.length).2.2.2)
    else if most < (out.length + (headR x t out.length).1 : Nat) then ([], 71)
    else if (headR x t out.length).2.1 = 0 then reA most (x :: t).length (t.drop (headR x t out.length).1) (out ++ t.take (headR x t out.length).1)
    else reA most (x :: t).length (t.drop (headR x t out.length).2.2.1) (copies out (headR x t out.length).2.1 (headR x t out.length).1) from rfl, e]
  rw [if_neg (by simp), if_neg h2, if_pos rfl]
  dsimp only
  exact reA_any most _ _ _ _ (by simp only [List.length_drop, List.length_cons]; omega) (by omega)
theorem re_match {most : Int} {x : UInt8} {t out : List UInt8} {back s : Nat} (h0 : headR x t out.length = (x.toNat - 125, back, s, 0)) (hb : 1 ≤ back) (h2 : ¬ most < (out.length + (x.toNat - 125) : Nat)) : re most (x :: t) out = re most (t.drop s) (copies out back (x.toNat - 125)) := by
  unfold re
  rw [show reA most ((x :: t).length + 1) (x :: t) out = if (headR x t out.length).2.2.2 ≠ 0 then ([], (headR x t out.length).2.2.2)
    else if most < (out.length + (headR x t out.length).1 : Nat) then ([], 71)
    else if (headR x t out.length).2.1 = 0 then reA most (x :: t).length (t.drop (headR x t out.length).1) (out ++ t.take (headR x t out.length).1)
    else reA most (x :: t).length (t.drop (headR x t out.length).2.2.1) (copies out (headR x t out.length).2.1 (headR x t out.length).1) from rfl, h0]
  rw [if_neg (by simp), if_neg h2, if_neg (by simp only; omega)]
  dsimp only
  exact reA_any most _ _ _ _ (by simp only [List.length_drop, List.length_cons]; omega) (by omega)
end Go.Proofs.YtbcgnacfhpahkaaDoor.LM
