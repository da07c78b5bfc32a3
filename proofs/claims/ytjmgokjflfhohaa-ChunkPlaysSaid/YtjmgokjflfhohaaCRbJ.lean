/- What follows for what is left, products, what is shared. -/
import Derived.Test.YtjmgokjflfhohaaCRbI
namespace Go.Proofs.Ytjmgokjflfhohaa.rb
open Go.RowKit Mem
set_option linter.unusedVariables false
theorem log_cm {q d : Nat} (hq : q ≠ 0) (hd : d ≠ 0) : (cm q d).log2 = q.log2 + d.log2 :=
  (Nat.log2_eq_iff (cm_ne hq hd)).2 (cm_deg (deg_of hq).1 (deg_of hq).2 (deg_of hd).1 (deg_of hd).2)
theorem gd_both : ∀ (n a b : Nat), b < n → (∃ q, a = cm q (gd a b)) ∧ ∃ q, b = cm q (gd a b)
  | 0, a, b, h => by omega
  | n + 1, a, b, h => by
    by_cases c : b = 0
    · subst c
      rw [gd_zero]
      exact ⟨⟨1, (cm_one a).symm⟩, ⟨0, (cm_zero a).symm⟩⟩
    · rw [gd_step c]
      have lt := md_less (a := a) c
      obtain ⟨⟨q, hq⟩, ⟨r, hr⟩⟩ := gd_both n b (md a b) (by omega)
      generalize gd b (md a b) = d at *
      refine ⟨?_, ⟨q, hq⟩⟩
      obtain ⟨s, hs⟩ := md_cong a b
      refine ⟨r ^^^ cm s q, ?_⟩
      rw [cm_xl, cm_assoc, ← hr, ← hq, ← hs, x_self_left]
theorem gd_left (a b : Nat) : ∃ q, a = cm q (gd a b) := (gd_both (b + 1) a b (by omega)).1
theorem gd_right (a b : Nat) : ∃ q, b = cm q (gd a b) := (gd_both (b + 1) a b (by omega)).2
theorem gd_none {a b : Nat} (h : gd a b = 0) : a = 0 ∧ b = 0 := by
  obtain ⟨q, hq⟩ := gd_left a b
  obtain ⟨r, hr⟩ := gd_right a b
  rw [h, cm_zero_r] at hq hr
  exact ⟨hq, hr⟩
theorem gd_mod_left (a b : Nat) : md a (gd a b) = 0 := md_eq_zero.2 (gd_left a b)
theorem gd_mod_right (a b : Nat) : md b (gd a b) = 0 := md_eq_zero.2 (gd_right a b)
theorem gd_deg {a b : Nat} (ha : a ≠ 0) : dg (gd a b) ≤ dg a := by
  obtain ⟨q, hq⟩ := gd_left a b
  have hd : gd a b ≠ 0 := fun h => ha (gd_none h).1
  have hq0 : q ≠ 0 := by intro h; rw [h, cm_zero] at hq; exact ha hq
  rw [dg_pos hd, dg_pos ha]
  generalize gd a b = d at *
  have := log_cm hq0 hd
  rw [← hq] at this
  omega
theorem gd_bound {a b : Nat} (ha : a < 18446744073709551616) (hb : b < 18446744073709551616) : gd a b < 18446744073709551616 := by
  have key : ∀ (n a b : Nat), b < n → a < 18446744073709551616 → b < 18446744073709551616 → gd a b < 18446744073709551616 := by
    intro n
    induction n with
    | zero => intro a b h; omega
    | succ n ih =>
      intro a b h ha hb
      by_cases c : b = 0
      · subst c; rw [gd_zero]; exact ha
      · rw [gd_step c]
        have lt := md_less (a := a) c
        exact ih b (md a b) (by omega) hb (by omega)
  exact key (b + 1) a b (by omega) ha hb
theorem ml_comm (a b p : Nat) : ml a b p = ml b a p := by
  unfold ml
  rw [cm_comm]
theorem ml_xr (a b c p : Nat) : ml a (b ^^^ c) p = ml a b p ^^^ ml a c p := by
  by_cases h : p = 0 ∨ 62 < p.log2
  · rw [ml_none h, ml_none h, ml_none h]; rfl
  · rw [ml_some h, ml_some h, ml_some h, cm_xl, md_x]
theorem ml_one {a p : Nat} (h : ¬ (p = 0 ∨ 62 < p.log2)) : ml a 1 p = md a p := by rw [ml_some h, cm_one]
end Go.Proofs.Ytjmgokjflfhohaa.rb
