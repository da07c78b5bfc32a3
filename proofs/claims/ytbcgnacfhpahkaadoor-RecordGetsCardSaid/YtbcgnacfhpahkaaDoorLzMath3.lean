/- Layer 7: restored with more room, with less; what stands behind; what was shortened. No program is named here. -/
import Derived.Test.YtbcgnacfhpahkaaDoorLzMath2
namespace Go.Proofs.YtbcgnacfhpahkaaDoor.LM
open OM
/-- a token's error, what is left behind it, what is told with it -/
def stepR (x : UInt8) (t out : List UInt8) : Nat × List UInt8 × List UInt8 :=
  if (headR x t out.length).2.1 = 0 then ((headR x t out.length).2.2.2, t.drop (headR x t out.length).1, out ++ t.take (headR x t out.length).1)
  else ((headR x t out.length).2.2.2, t.drop (headR x t out.length).2.2.1, copies out (headR x t out.length).2.1 (headR x t out.length).1)
theorem stepR_ok {x : UInt8} {t out : List UInt8} (h : (stepR x t out).1 = 0) : (headR x t out.length).2.2.2 = 0 ∧ (stepR x t out).2.2.length = out.length + (headR x t out.length).1 ∧ 1 ≤ (headR x t out.length).1 ∧ (stepR x t out).2.1.length ≤ t.length ∧ out <+: (stepR x t out).2.2 := by
  have h0 : (headR x t out.length).2.2.2 = 0 := by
    unfold stepR at h
    split at h <;> exact h
  refine ⟨h0, ?_⟩
  rcases headR_ok h0 with ⟨a1, a2, a3⟩ | ⟨a1, a2, back, s, a3, a4, a5, a6, a7, a8⟩
  · unfold stepR
    rw [a2, if_pos rfl]
    simp only [List.length_append, List.length_take, List.length_drop]
    exact ⟨by omega, by omega, by omega, List.prefix_append _ _⟩
  · unfold stepR
    rw [a3, if_neg (by simp only; omega)]
    simp only [copies_len, List.length_drop]
    refine ⟨trivial, by omega, by omega, ?_⟩
    generalize x.toNat - 125 = m
    clear a3 h h0
    induction m with
    | zero => exact List.prefix_refl _
    | succ m ih => exact List.IsPrefix.trans ih (List.prefix_append _ _)
theorem re_step (most : Int) (x : UInt8) (t out : List UInt8) : re most (x :: t) out = if (stepR x t out).1 ≠ 0 then ([], (stepR x t out).1) else if most < ((stepR x t out).2.2.length : Int) then ([], 71) else re most (stepR x t out).2.1 (stepR x t out).2.2 := by
  have hs : (stepR x t out).1 = (headR x t out.length).2.2.2 := by unfold stepR; split <;> rfl
  by_cases h : (headR x t out.length).2.2.2 = 0
  · have hl := (stepR_ok (hs.trans h)).2.1
    rw [if_neg (by rw [hs, h]; simp), hl]
    by_cases hc : most < ((out.length + (headR x t out.length).1 : Nat) : Int)
    · rw [if_pos hc, re_cap h hc]
    · rw [if_neg hc]
      rcases headR_ok h with ⟨a1, a2, a3⟩ | ⟨a1, a2, back, s, a3, a4, a5, a6, a7, a8⟩
      · rw [a2] at hc
        rw [re_lit a1 a3 hc]
        unfold stepR
        rw [a2, if_pos rfl]
      · rw [a3] at hc
        rw [re_match a3 a4 hc]
        unfold stepR
        rw [a3, if_neg (by simp only; omega)]
  · rw [if_pos (by rw [hs]; exact h), re_bad h, hs]
theorem re_err (most : Int) : ∀ (k : Nat) (bs out : List UInt8), bs.length ≤ k → (re most bs out).2 ≠ 0 → (re most bs out).1 = [] := by
  intro k
  induction k with
  | zero =>
    intro bs out h h2
    obtain rfl : bs = [] := List.length_eq_zero_iff.1 (by omega)
    exact absurd rfl h2
  | succ k ih =>
    intro bs out h h2
    cases bs with
    | nil => exact absurd rfl h2
    | cons x t =>
      rw [re_step] at h2 ⊢
      by_cases h0 : (stepR x t out).1 = 0
      · rw [if_neg (by rw [h0]; simp)] at h2 ⊢
        split at h2
        · rename_i hc; rw [if_pos hc]
        · rename_i hc
          rw [if_neg hc]
          simp only [List.length_cons] at h
          exact ih _ _ (by have := (stepR_ok h0).2.2.2.1; omega) h2
      · rw [if_pos h0]
/-- what is told begins with what was told before, and is within its room -/
theorem re_grow (most : Int) : ∀ (k : Nat) (bs out x : List UInt8), bs.length ≤ k → re most bs out = (x, 0) → out <+: x ∧ (out = x ∧ bs = [] ∨ (out.length < x.length ∧ (x.length : Int) ≤ most)) := by
  intro k
  induction k with
  | zero =>
    intro bs out x h h2
    obtain rfl : bs = [] := List.length_eq_zero_iff.1 (by omega)
    obtain rfl : out = x := congrArg Prod.fst h2
    exact ⟨List.prefix_refl _, Or.inl ⟨rfl, rfl⟩⟩
  | succ k ih =>
    intro bs out x h h2
    cases bs with
    | nil =>
      obtain rfl : out = x := congrArg Prod.fst h2
      exact ⟨List.prefix_refl _, Or.inl ⟨rfl, rfl⟩⟩
    | cons y t =>
      rw [re_step] at h2
      by_cases h0 : (stepR y t out).1 = 0
      · rw [if_neg (by rw [h0]; simp)] at h2
        split at h2
        · exact absurd (congrArg Prod.snd h2) (by simp)
        · rename_i hc
          obtain ⟨_, k1, k2, k3, k4⟩ := stepR_ok h0
          simp only [List.length_cons] at h
          obtain ⟨i1, i2⟩ := ih _ _ _ (by omega) h2
          refine ⟨List.IsPrefix.trans k4 i1, Or.inr ?_⟩
          have := i1.length_le
          refine ⟨by omega, ?_⟩
          rcases i2 with ⟨i3, _⟩ | ⟨_, i4⟩
          · rw [← i3]; omega
          · exact i4
      · rw [if_pos h0] at h2
        exact absurd (congrArg Prod.snd h2) h0
theorem re_more (M room : Int) : ∀ (k : Nat) (bs out x : List UInt8), bs.length ≤ k → re M bs out = (x, 0) → ((x.length : Int) ≤ room → re room bs out = (x, 0)) ∧ (room < (x.length : Int) → out.length < x.length → re room bs out = ([], 71)) := by
  intro k
  induction k with
  | zero =>
    intro bs out x h h2
    obtain rfl : bs = [] := List.length_eq_zero_iff.1 (by omega)
    obtain rfl : out = x := congrArg Prod.fst h2
    exact ⟨fun _ => rfl, fun _ h => by omega⟩
  | succ k ih =>
    intro bs out x h h2
    cases bs with
    | nil =>
      obtain rfl : out = x := congrArg Prod.fst h2
      exact ⟨fun _ => rfl, fun _ h => by omega⟩
    | cons y t =>
      rw [re_step] at h2
      by_cases h0 : (stepR y t out).1 = 0
      · rw [if_neg (by rw [h0]; simp)] at h2
        split at h2
        · exact absurd (congrArg Prod.snd h2) (by simp)
        · rename_i hc
          obtain ⟨_, k1, k2, k3, k4⟩ := stepR_ok h0
          simp only [List.length_cons] at h
          obtain ⟨i1, i2⟩ := ih _ _ _ (by omega) h2
          obtain ⟨g1, g2⟩ := re_grow M k _ _ _ (by omega) h2
          have hle := g1.length_le
          constructor
          · intro hr
            rw [re_step, if_neg (by rw [h0]; simp), if_neg (by omega)]
            exact i1 hr
          · intro hr hlt
            rw [re_step, if_neg (by rw [h0]; simp)]
            split
            · rfl
            · exact i2 hr (by omega)
      · rw [if_pos h0] at h2
        exact absurd (congrArg Prod.snd h2) h0
/-- tokens with others behind -/
theorem stepR_app {x : UInt8} {t out : List UInt8} (h : (stepR x t out).1 = 0) (b : List UInt8) : stepR x (t ++ b) out = (0, (stepR x t out).2.1 ++ b, (stepR x t out).2.2) := by
  have h0 := (stepR_ok h).1
  rcases headR_ok h0 with ⟨a1, a2, a3⟩ | ⟨a1, a2, back, s, a3, a4, a5, a6, a7, a8⟩
  · have e : headR x (t ++ b) out.length = (x.toNat + 1, 0, 0, 0) := by
      unfold headR
      rw [if_pos a1, if_neg (by rw [List.length_append]; omega)]
    unfold stepR
    rw [e, a2, if_pos rfl, if_pos rfl]
    simp only
    rw [List.drop_append_of_le_length a3, List.take_append_of_le_length a3]
  · have hlk : lk (t ++ b) = (back, s, 0) := by
      obtain ⟨b1, b2, b3, b4⟩ := look_ok a7
      have : t ++ b = numB back ++ (t.drop s ++ b) := by rw [← b1, ← List.append_assoc, List.take_append_drop]
      rw [this, look_num back _ b4, ← b2]
    have e : headR x (t ++ b) out.length = (x.toNat - 125, back, s, 0) := by
      have hin : inR (t ++ b) 1 ((min 512 out.length : Nat) : Int) = (back, s, 0) := by
        unfold inR
        rw [hlk, if_neg]
        simp only
        omega
      unfold headR
      rw [if_neg (by omega), hin, if_neg (by simp), if_neg (by simp; omega)]
    unfold stepR
    rw [e, a3, if_neg (by simp only; omega), if_neg (by simp only; omega)]
    simp only
    rw [List.drop_append_of_le_length a8]
theorem re_app (M : Int) (b : List UInt8) : ∀ (k : Nat) (a out x : List UInt8), a.length ≤ k → re M a out = (x, 0) → re M (a ++ b) out = re M b x := by
  intro k
  induction k with
  | zero =>
    intro a out x h h2
    obtain rfl : a = [] := List.length_eq_zero_iff.1 (by omega)
    obtain rfl : out = x := congrArg Prod.fst h2
    rfl
  | succ k ih =>
    intro a out x h h2
    cases a with
    | nil =>
      obtain rfl : out = x := congrArg Prod.fst h2
      rfl
    | cons y t =>
      rw [re_step] at h2
      by_cases h0 : (stepR y t out).1 = 0
      · rw [if_neg (by rw [h0]; simp)] at h2
        split at h2
        · exact absurd (congrArg Prod.snd h2) (by simp)
        · rename_i hc
          simp only [List.length_cons] at h
          rw [List.cons_append, re_step, stepR_app h0, if_neg (by simp), if_neg hc]
          exact ih _ _ _ (by have := (stepR_ok h0).2.2.2.1; omega) h2
      · rw [if_pos h0] at h2
        exact absurd (congrArg Prod.snd h2) h0
end Go.Proofs.YtbcgnacfhpahkaaDoor.LM
