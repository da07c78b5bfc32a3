/- Contracts of seq.Clip and the document's. -/
import Derived.Test.YtbkhhcjpcobkkaaSeqA
namespace Go.Proofs.Ytbkhhcjpcobkkaa.sq
open Go.RowKit Mem
set_option linter.unusedVariables false
theorem below_drewN {B : Nat} {w w1 : World} (h : Below B w w1) (q : Nat) : Below B w (w1.drewN q) := ⟨h.os, h.tape, h.output, h.size, h.block⟩
/-- Clip's answer -/
def ClipPost (S n f m : Int) (w : World) (e : Ending) (w' : World) : Prop := e = .returned (.tuple #[.int .i64 (clipA S n f m), .int .i64 (clipK S n f m)]) ∧ Below w.heap.size w w'
theorem clip_any (S n f m : Int) (w : World) (n1 : n ≤ 9223372036854775807) (m1 : m ≤ 9223372036854775807) :
    Calls Try.prog 22 #[.agg #[.int .u32 S, .int .i64 n], .int .u32 f, .int .i64 m] w (ClipPost S n f m w) := by
  have hbd1 := dif_bd f S
  have hbd2 := dif_bd S f
  have hA0 : (n < 1 ∨ m < 1 ∨ dif S f = -2147483648) → Hid (clipA S n f m = 0 ∧ clipK S n f m = 0) := fun h => by
    have : clipWay S n f m = 0 := by unfold clipWay; rw [if_pos h]
    exact ⟨if_neg (by omega), if_neg (by omega)⟩
  by_cases c1 : n < 1
  · have HA := hA0 (Or.inl c1)
    have d1 : decide (n < 1) = true := decide_eq_true c1
    clear hA0
    go_enter Try.func22, Try.ntmps22
    go_wp2_with fail
    go_ret2
    exact ⟨by rw [HA.out.1, HA.out.2]; rfl, (Below.refl _ _).alloc (Nat.le_refl _) _⟩
  · have d1 : decide (n < 1) = false := decide_eq_false c1
    by_cases c2 : m < 1
    · have HA := hA0 (Or.inr (Or.inl c2))
      have d2 : decide (m < 1) = true := decide_eq_true c2
      clear hA0
      go_enter Try.func22, Try.ntmps22
      go_wp2_with fail
      go_ret2
      exact ⟨by rw [HA.out.1, HA.out.2]; rfl, (Below.refl _ _).alloc (Nat.le_refl _) _⟩
    · have d2 : decide (m < 1) = false := decide_eq_false c2
      by_cases c3 : (f - S) % 4294967296 = 2147483648
      · have HA := hA0 (Or.inr (Or.inr (by unfold dif; omega)))
        have d3 : ((f - S) % 4294967296 == 2147483648) = true := by rw [beq_iff_eq]; exact c3
        clear hA0 c3
        go_enter Try.func22, Try.ntmps22
        go_wp2_with fail
        go_ret2
        exact ⟨by rw [HA.out.1, HA.out.2]; rfl, (Below.refl _ _).alloc (Nat.le_refl _) _⟩
      · have d3 : ((f - S) % 4294967296 == 2147483648) = false := by rw [beq_eq_false_iff_ne]; exact c3
        have hw : clipWay S n f m = if n ≤ up (dif f S) ∨ m ≤ up (dif S f) then 1 else 2 := by
          unfold clipWay; rw [if_neg (by have := half_dif S f; unfold ofs at this; omega)]
        have HW := Lib.hid hw
        clear hA0 hw c3
        have u1 : (if dif f S < 0 then 0 else dif f S) = up (dif f S) := rfl
        have u2 : (if dif S f < 0 then 0 else dif S f) = up (dif S f) := rfl
        have u3 : 0 ≤ up (dif f S) ∧ up (dif f S) ≤ 2147483647 := by unfold up; split <;> omega
        have u4 : 0 ≤ up (dif S f) ∧ up (dif S f) ≤ 2147483647 := by unfold up; split <;> omega
        clear hbd1 hbd2
        by_cases c4 : n ≤ up (dif f S)
        · have HA : Hid (clipA S n f m = 0 ∧ clipK S n f m = 0) := by
            have : clipWay S n f m = 1 := by rw [HW.out, if_pos (Or.inl c4)]
            exact ⟨if_neg (by omega), if_neg (by omega)⟩
          have d4 : decide (n ≤ up (dif f S)) = true := decide_eq_true c4
          go_enter Try.func22, Try.ntmps22
          go_wp2_with fail
          go_quiet (first | (go_at_call 15; exact Calls.quiet_of_same ((diff_any _ _ _).mono fun _ _ ⟨h, e⟩ => ⟨h, e.symm⟩)))
          go_wp2_with fail
          go_ret2
          exact ⟨by rw [HA.out.1, HA.out.2]; rfl, below_drewN ((Below.refl _ _).alloc (Nat.le_refl _) _) _⟩
        · have d4 : decide (n ≤ up (dif f S)) = false := decide_eq_false c4
          by_cases c5 : m ≤ up (dif S f)
          · have HA : Hid (clipA S n f m = 0 ∧ clipK S n f m = 0) := by
              have : clipWay S n f m = 1 := by rw [HW.out, if_pos (Or.inr c5)]
              exact ⟨if_neg (by omega), if_neg (by omega)⟩
            have d5 : decide (m ≤ up (dif S f)) = true := decide_eq_true c5
            go_enter Try.func22, Try.ntmps22
            go_wp2_with fail
            go_quiet (first | (go_at_call 15; exact Calls.quiet_of_same ((diff_any _ _ _).mono fun _ _ ⟨h, e⟩ => ⟨h, e.symm⟩)))
            go_wp2_with fail
            go_ret2
            exact ⟨by rw [HA.out.1, HA.out.2]; rfl, below_drewN ((Below.refl _ _).alloc (Nat.le_refl _) _) _⟩
          · have d5 : decide (m ≤ up (dif S f)) = false := decide_eq_false c5
            have HA : Hid (clipA S n f m = up (dif f S) ∧ clipK S n f m = lesser (n - up (dif f S)) (m - up (dif S f))) := by
              have : clipWay S n f m = 2 := by rw [HW.out, if_neg (by omega)]
              exact ⟨if_pos this, if_pos this⟩
            have e1 : IntKind.i64.wrap (n - up (dif f S)) = n - up (dif f S) := IntWalk.i64_in _ (by omega)
            have e2 : IntKind.i64.wrap (m - up (dif S f)) = m - up (dif S f) := IntWalk.i64_in _ (by omega)
            have e3 : (if m - up (dif S f) < n - up (dif f S) then m - up (dif S f) else n - up (dif f S)) = lesser (n - up (dif f S)) (m - up (dif S f)) := rfl
            go_enter Try.func22, Try.ntmps22
            go_wp2_with fail
            go_quiet (first | (go_at_call 15; exact Calls.quiet_of_same ((diff_any _ _ _).mono fun _ _ ⟨h, e⟩ => ⟨h, e.symm⟩)))
            go_wp2_with fail
            go_quiet (fail)
            go_wp2_with fail
            go_ret2
            exact ⟨by rw [HA.out.1, HA.out.2]; rfl, below_drewN (below_drewN ((Below.refl _ _).alloc (Nat.le_refl _) _) _) _⟩

theorem rclip_any (S n f m : Int) (w : World) (n1 : n ≤ 9223372036854775807) (m1 : m ≤ 9223372036854775807) (S0 : 0 ≤ S) (S1 : S < 4294967296) (f0 : 0 ≤ f) (f1 : f < 4294967296) :
    Calls Try.prog 23 #[.int .u32 S, .int .i64 n, .int .u32 f, .int .i64 m] w (ClipPost S n f m w) := by
  have hbd1 := dif_bd f S
  have hbd2 := dif_bd S f
  have hA0 : (n < 1 ∨ m < 1 ∨ dif S f = -2147483648) → Hid (clipA S n f m = 0 ∧ clipK S n f m = 0) := fun h => by
    have : clipWay S n f m = 0 := by unfold clipWay; rw [if_pos h]
    exact ⟨if_neg (by omega), if_neg (by omega)⟩
  by_cases c1 : n < 1
  · have HA := hA0 (Or.inl c1)
    have d1 : decide (n < 1) = true := decide_eq_true c1
    clear hA0
    go_enter Try.func23, Try.ntmps23
    go_wp2_with fail
    go_ret2
    exact ⟨by rw [HA.out.1, HA.out.2]; rfl, Below.refl _ _⟩
  · have d1 : decide (n < 1) = false := decide_eq_false c1
    by_cases c2 : m < 1
    · have HA := hA0 (Or.inr (Or.inl c2))
      have d2 : decide (m < 1) = true := decide_eq_true c2
      clear hA0
      go_enter Try.func23, Try.ntmps23
      go_wp2_with fail
      go_ret2
      exact ⟨by rw [HA.out.1, HA.out.2]; rfl, Below.refl _ _⟩
    · have d2 : decide (m < 1) = false := decide_eq_false c2
      by_cases c3 : dif S f = -2147483648
      · have HA := hA0 (Or.inr (Or.inr c3))
        have d3 : (dif S f == -2147483648) = true := by rw [beq_iff_eq]; exact c3
        clear hA0 c3
        go_enter Try.func23, Try.ntmps23
        go_wp2_with (go_at_call 16; refine (rdiff_any _ _ _ (by omega) (by omega) (by omega) (by omega)).mono ?_; rintro e w' ⟨rfl, rfl⟩)
        go_ret2
        exact ⟨by rw [HA.out.1, HA.out.2]; rfl, Below.refl _ _⟩
      · have d3 : (dif S f == -2147483648) = false := by rw [beq_eq_false_iff_ne]; exact c3
        have hw : clipWay S n f m = if n ≤ up (dif f S) ∨ m ≤ up (dif S f) then 1 else 2 := by
          unfold clipWay; rw [if_neg (by omega)]
        have HW := Lib.hid hw
        clear hA0 hw c3
        have u1 : (if dif f S < 0 then 0 else dif f S) = up (dif f S) := rfl
        have u2 : (if dif S f < 0 then 0 else dif S f) = up (dif S f) := rfl
        have u3 : 0 ≤ up (dif f S) ∧ up (dif f S) ≤ 2147483647 := by unfold up; split <;> omega
        have u4 : 0 ≤ up (dif S f) ∧ up (dif S f) ≤ 2147483647 := by unfold up; split <;> omega
        clear hbd1 hbd2
        by_cases c4 : n ≤ up (dif f S)
        · have HA : Hid (clipA S n f m = 0 ∧ clipK S n f m = 0) := by
            have : clipWay S n f m = 1 := by rw [HW.out, if_pos (Or.inl c4)]
            exact ⟨if_neg (by omega), if_neg (by omega)⟩
          have d4 : decide (n ≤ up (dif f S)) = true := decide_eq_true c4
          go_enter Try.func23, Try.ntmps23
          go_wp2_with (go_at_call 16; refine (rdiff_any _ _ _ (by omega) (by omega) (by omega) (by omega)).mono ?_; rintro e w' ⟨rfl, rfl⟩)
          go_ret2
          exact ⟨by rw [HA.out.1, HA.out.2]; rfl, Below.refl _ _⟩
        · have d4 : decide (n ≤ up (dif f S)) = false := decide_eq_false c4
          by_cases c5 : m ≤ up (dif S f)
          · have HA : Hid (clipA S n f m = 0 ∧ clipK S n f m = 0) := by
              have : clipWay S n f m = 1 := by rw [HW.out, if_pos (Or.inr c5)]
              exact ⟨if_neg (by omega), if_neg (by omega)⟩
            have d5 : decide (m ≤ up (dif S f)) = true := decide_eq_true c5
            go_enter Try.func23, Try.ntmps23
            go_wp2_with (go_at_call 16; refine (rdiff_any _ _ _ (by omega) (by omega) (by omega) (by omega)).mono ?_; rintro e w' ⟨rfl, rfl⟩)
            go_ret2
            exact ⟨by rw [HA.out.1, HA.out.2]; rfl, Below.refl _ _⟩
          · have d5 : decide (m ≤ up (dif S f)) = false := decide_eq_false c5
            have HA : Hid (clipA S n f m = up (dif f S) ∧ clipK S n f m = lesser (n - up (dif f S)) (m - up (dif S f))) := by
              have : clipWay S n f m = 2 := by rw [HW.out, if_neg (by omega)]
              exact ⟨if_pos this, if_pos this⟩
            have e1 : IntKind.i64.wrap (n - up (dif f S)) = n - up (dif f S) := IntWalk.i64_in _ (by omega)
            have e2 : IntKind.i64.wrap (m - up (dif S f)) = m - up (dif S f) := IntWalk.i64_in _ (by omega)
            have e3 : (if m - up (dif S f) < n - up (dif f S) then m - up (dif S f) else n - up (dif f S)) = lesser (n - up (dif f S)) (m - up (dif S f)) := rfl
            go_enter Try.func23, Try.ntmps23
            go_wp2_with (go_at_call 16; refine (rdiff_any _ _ _ (by omega) (by omega) (by omega) (by omega)).mono ?_; rintro e w' ⟨rfl, rfl⟩)
            go_ret2
            exact ⟨by rw [HA.out.1, HA.out.2]; rfl, Below.refl _ _⟩
end Go.Proofs.Ytbkhhcjpcobkkaa.sq
