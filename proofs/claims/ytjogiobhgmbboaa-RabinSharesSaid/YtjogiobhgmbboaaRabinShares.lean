/- RabinShares: for every input the law answers true and leaves its arguments as they were. -/
import Derived.Test.YtjogiobhgmbboaaRows
import Derived.Test.YtjogiobhgmbboaaRbJ
import Derived.ProofKit
import Derived.OpenShut
import Derived.ShutString
import Derived.ChangeOld
namespace Go.Proofs.Ytjogiobhgmbboaa.rabinSharesDone
open Go.RowKit Mem rb
set_option linter.unusedVariables false
theorem walk (a b : Int) (w : World) (ha : (Lit.int .u64 a).wf = true) (hb : (Lit.int .u64 b).wf = true) :
    Calls Try.prog 11 #[.int .u64 a, .int .u64 b] w fun e w' => e = .returned (.bool true) ∧ Below w.heap.size w w' := by
  replace ha := u64_nat ha
  obtain ⟨a, rfl, ha⟩ := ha
  replace hb := u64_nat hb
  obtain ⟨b, rfl, hb⟩ := hb
  have hd := gd_bound ha hb
  have hG : ∀ w, Calls Try.prog 22 #[.int .u64 (a : Nat), .int .u64 (b : Nat)] w fun e w' => e = .returned (.int .u64 (gd a b : Nat)) ∧ w = w' := fun w => gcd_any a b w ha hb
  by_cases z : gd a b = 0
  · obtain ⟨rfl, rfl⟩ := gd_none z
    rw [z] at hG
    have HG := Lib.hid hG
    clear hG hd z
    go_enter Try.func11, Try.ntmps11
    go_wp2_with (first
      | (go_at_call 22; refine (HG.out _).mono ?_; rintro e w' ⟨rfl, rfl⟩)
      | (go_at_call 19; refine (awake_any _).mono ?_; rintro e w4 ⟨rfl, hb4⟩))
    go_ret
    exact ⟨rfl, hb4⟩
  · have h1 : ∀ w, Calls Try.prog 17 #[.int .u64 (a : Nat), .int .u64 (gd a b : Nat)] w fun e w' => e = .returned (.int .u64 0) ∧ w = w' := fun w => by
      have := mod_any a (gd a b) w ha hd
      rwa [gd_mod_left] at this
    have h2 : ∀ w, Calls Try.prog 17 #[.int .u64 (b : Nat), .int .u64 (gd a b : Nat)] w fun e w' => e = .returned (.int .u64 0) ∧ w = w' := fun w => by
      have := mod_any b (gd a b) w hb hd
      rwa [gd_mod_right] at this
    have hz : ((gd a b : Nat) : Int) ≠ 0 := by omega
    have hz2 : (((gd a b : Nat) : Int) == 0) = false := by rw [beq_eq_false_iff_ne]; exact hz
    have hq : a ≠ 0 → dg (gd a b) ≤ dg a := fun h => gd_deg h
    generalize gd a b = d at *
    have HG := Lib.hid hG
    have HA := Lib.hid h1
    have HB := Lib.hid h2
    clear hG h1 h2
    by_cases y : a = 0
    · subst y
      have HG : Hid (∀ w, Calls Try.prog 22 #[.int .u64 0, .int .u64 (b : Nat)] w fun e w' => e = .returned (.int .u64 (d : Nat)) ∧ w = w') := HG
      have HA : Hid (∀ w, Calls Try.prog 17 #[.int .u64 0, .int .u64 (d : Nat)] w fun e w' => e = .returned (.int .u64 0) ∧ w = w') := HA
      clear hq
      go_enter Try.func11, Try.ntmps11
      go_wp2_with (first
        | (go_at_call 22; refine (HG.out _).mono ?_; rintro e w' ⟨rfl, rfl⟩)
        | (go_at_call 17; with_reducible refine (HA.out _).mono ?_; rintro e w' ⟨rfl, rfl⟩)
        | (go_at_call 17; with_reducible refine (HB.out _).mono ?_; rintro e w' ⟨rfl, rfl⟩)
        | (go_at_call 15; refine (deg_any _ _ (by omega)).mono ?_; rintro e w' ⟨rfl, rfl⟩)
        | (go_at_call 19; refine (awake_any _).mono ?_; rintro e w4 ⟨rfl, hb4⟩))
      go_ret
      exact ⟨rfl, hb4⟩
    · have hq2 := hq y
      have y1 : ¬ (a : Int) = 0 := by omega
      have y2 : ((a : Int) == 0) = false := by rw [beq_eq_false_iff_ne]; omega
      clear hq
      go_enter Try.func11, Try.ntmps11
      go_wp2_with (first
        | (go_at_call 22; refine (HG.out _).mono ?_; rintro e w' ⟨rfl, rfl⟩)
        | (go_at_call 17; with_reducible refine (HA.out _).mono ?_; rintro e w' ⟨rfl, rfl⟩)
        | (go_at_call 17; with_reducible refine (HB.out _).mono ?_; rintro e w' ⟨rfl, rfl⟩)
        | (go_at_call 15; refine (deg_any _ _ (by omega)).mono ?_; rintro e w' ⟨rfl, rfl⟩)
        | (go_at_call 19; refine (awake_any _).mono ?_; rintro e w4 ⟨rfl, hb4⟩))
      go_ret
      exact ⟨rfl, hb4⟩
end Go.Proofs.Ytjogiobhgmbboaa.rabinSharesDone
namespace Go.Proofs.Ytjogiobhgmbboaa.rabinSharesDone
open Go.ChangeShapes Go.WideShapes Go.ChangeAt Go.RowKit Mem rb
set_option linter.unusedVariables false
theorem own : ownKnob Try.prog.godebug = none := by kernel_rfl
theorem laidOut : laidOutB Try.prog = true := by kernel_rfl
set_option maxRecDepth 100000 in
theorem lifted (os : Os) (started : os.Started) (H : Type) (enc : TypeId × Value → H) :
    ReturnsInHanded {} Try.checked os 11 .any (Rows.rabinSharesSpec.pre6 enc Try.prog Try.f11 Rows.rabinSharesRow.domain false) (Rows.rabinSharesSpec.post enc Try.prog Try.f11 false true false false) := by
  refine returnsInHanded_of_change (C := Try.checked) own started (by kernel_rfl) Try.func11
    (ChangeSpec.witness6 (enc := enc) (C := Try.checked) false ⟨#[], #[.int .u64 0, .int .u64 0], []⟩ 8 (by kernel_rfl) (by kernel_rfl) (by kernel_rfl) (by kernel_rfl)) ?_
  intro W base args ds gs before hval0 hW hcnd _
  have hval : ∀ (j : Nat) t v, Try.f11.params[j]? = some t → args[j]? = some v → Value.okWide Try.prog W .any base t v := hval0
  have hW' := hW
  obtain ⟨p, q, hA0, hV, rfl, hfz, hnd⟩ := hW
  have hA : DataW.TrodAll enc Try.prog W 0 (fun _ => true) true Try.f11.params.toList args.toList ds p := hA0
  rw [Try.params11] at hA hval
  obtain ⟨v0, vs0, d0, ds0, p0, q0, hargs, rfl, rfl, h0, r0⟩ := trodAll_cons hA
  obtain ⟨v1, vs1, d1, ds1, p1, q1, rfl, rfl, rfl, h1, r1⟩ := trodAll_cons r0
  obtain ⟨rfl, rfl, rfl⟩ := trodAll_nil r1
  obtain rfl : args = #[v0, v1] := by cases args; simp_all
  obtain ⟨rfl, rfl⟩ := trodVars_none hV
  obtain ⟨a0, rfl, rfl, rfl, w0⟩ := open_int Try.underlying22 (hval 0 22 v0 rfl rfl) h0
  obtain ⟨a1, rfl, rfl, rfl, w1⟩ := open_int Try.underlying22 (hval 1 22 v1 rfl rfl) h1
  clear hA0 hval0
  refine (walk a0 a1 W w0 w1).mono fun e W' ⟨he, bel⟩ => ?_
  subst he
  exact ⟨_, rfl, _, _, _, [], _, [], hW', trodAll_mk1 (shut_bool Try.underlying4 _), (trodAll_cons_mk (shut_int Try.underlying22 w0) (trodAll_cons_mk (shut_int Try.underlying22 w1) trodAll_mk0)), rfl, bel.frame _, fun h => by cases h⟩

theorem over : Rows.rabinSharesRow.holds Try.pinned (OpenSpec.ofChange Rows.rabinSharesSpec) :=
  OpenClaim.holds_of_wide 11 Try.f11 rfl rfl rfl rfl rfl rfl rfl ⟨rfl, rfl, rfl, rfl, rfl⟩ rfl rfl rfl rfl rfl (by kernel_rfl) Try.func11 (by kernel_rfl)
    (of_decide_eq_true (by kernel_rfl)) (by unfold Func.isWrapper; first | (rw [if_pos (by decide +kernel)]; kernel_rfl) | (rw [if_neg (by decide +kernel)]; exact ⟨rfl, rfl⟩))
    (fun os started H enc _ => lifted os started H enc)
/-- the given statement -/
theorem proved : Rows.RabinSharesSaid := over
#print axioms proved
end Go.Proofs.Ytjogiobhgmbboaa.rabinSharesDone
