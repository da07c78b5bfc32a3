/- RabinPrimes: for every input the law answers true and leaves its arguments as they were. -/
import Derived.Test.YtjogiobhgmbboaaRows
import Derived.Test.YtjogiobhgmbboaaRbPrimes2
import Derived.ProofKit
import Derived.OpenShut
import Derived.ShutString
import Derived.ChangeOld
namespace Go.Proofs.Ytjogiobhgmbboaa.rabinPrimesDone
open Go.RowKit Mem rb
set_option linter.unusedVariables false
theorem walk (p : Int) (w : World) (hp : (Lit.int .u64 p).wf = true) :
    Calls Try.prog 6 #[.int .u64 p] w fun e w' => e = .returned (.bool true) ∧ Below w.heap.size w w' := by
  replace hp := u64_nat hp
  obtain ⟨p, rfl, hp⟩ := hp
  have hG : ∀ w, Calls Try.prog 25 #[.int .u64 (p : Nat)] w fun e w' => e = .returned (.bool (goodB p)) ∧ w = w' := fun w => rgood_any p w hp
  have hP : ∀ w, Calls Try.prog 26 #[.int .u64 (p : Nat)] w fun e w' => e = .returned (.bool (primeB p)) ∧ w = w' := fun w => prime_any p w hp
  have hR : ∀ w, Calls Try.prog 27 #[.int .u64 (p : Nat)] w fun e w' => e = .returned (.bool (primeB p)) ∧ w = w' := fun w => rprime_any p w hp
  generalize primeB p = pb at *
  have HP := Lib.hid hP
  have HR := Lib.hid hR
  clear hP hR
  cases hg : goodB p with
  | true =>
    have HN := Lib.hid (new_good p w hp hg)
    rw [hg] at hG
    have HG := Lib.hid hG
    have hb : Below w.heap.size w (w.alloc (.cells (freshT p) 64)) := (Below.refl _ w).alloc (Nat.le_refl _) _
    clear hG hg
    cases pb
    all_goals
      go_enter Try.func6, Try.ntmps6
      go_wp2_with fail
      refine HN.out.mono ?_
      rintro e w1 ⟨rfl, hw1⟩
      rw [← hw1] at hb
      have hs := hb.size
      clear hw1
      go_wp2_with (first
        | (go_at_call 25; refine (HG.out _).mono ?_; rintro e w' ⟨rfl, rfl⟩)
        | (go_at_call 26; refine (HP.out _).mono ?_; rintro e w' ⟨rfl, rfl⟩)
        | (go_at_call 27; refine (HR.out _).mono ?_; rintro e w' ⟨rfl, rfl⟩)
        | (go_at_call 19; refine (awake_any _).mono ?_; rintro e w4 ⟨rfl, hb4⟩))
      go_ret
      exact ⟨rfl, hb.trans (hb4.mono hs)⟩
  | false =>
    have HN := Lib.hid (new_bad p w hp hg)
    rw [hg] at hG
    have HG := Lib.hid hG
    clear hG hg
    cases pb
    all_goals
      go_enter Try.func6, Try.ntmps6
      go_wp2_with fail
      refine HN.out.mono ?_
      rintro e w1 ⟨rfl, rfl⟩
      go_wp2_with (first
        | (go_at_call 25; refine (HG.out _).mono ?_; rintro e w' ⟨rfl, rfl⟩)
        | (go_at_call 26; refine (HP.out _).mono ?_; rintro e w' ⟨rfl, rfl⟩)
        | (go_at_call 27; refine (HR.out _).mono ?_; rintro e w' ⟨rfl, rfl⟩)
        | (go_at_call 19; refine (awake_any _).mono ?_; rintro e w4 ⟨rfl, hb4⟩))
      go_ret
      exact ⟨rfl, hb4⟩
end Go.Proofs.Ytjogiobhgmbboaa.rabinPrimesDone
namespace Go.Proofs.Ytjogiobhgmbboaa.rabinPrimesDone
open Go.ChangeShapes Go.WideShapes Go.ChangeAt Go.RowKit Mem rb
set_option linter.unusedVariables false
theorem own : ownKnob Try.prog.godebug = none := by kernel_rfl
theorem laidOut : laidOutB Try.prog = true := by kernel_rfl
set_option maxRecDepth 100000 in
theorem lifted (os : Os) (started : os.Started) (H : Type) (enc : TypeId × Value → H) :
    ReturnsInHanded {} Try.checked os 6 .any (Rows.rabinPrimesSpec.pre6 enc Try.prog Try.f6 Rows.rabinPrimesRow.domain false) (Rows.rabinPrimesSpec.post enc Try.prog Try.f6 false true false false) := by
  refine returnsInHanded_of_change (C := Try.checked) own started (by kernel_rfl) Try.func6
    (ChangeSpec.witness6 (enc := enc) (C := Try.checked) false ⟨#[], #[.int .u64 0], []⟩ 8 (by kernel_rfl) (by kernel_rfl) (by kernel_rfl) (by kernel_rfl)) ?_
  intro W base args ds gs before hval0 hW hcnd _
  have hval : ∀ (j : Nat) t v, Try.f6.params[j]? = some t → args[j]? = some v → Value.okWide Try.prog W .any base t v := hval0
  have hW' := hW
  obtain ⟨p, q, hA0, hV, rfl, hfz, hnd⟩ := hW
  have hA : DataW.TrodAll enc Try.prog W 0 (fun _ => true) true Try.f6.params.toList args.toList ds p := hA0
  rw [Try.params6] at hA hval
  obtain ⟨v0, vs0, d0, ds0, p0, q0, hargs, rfl, rfl, h0, r0⟩ := trodAll_cons hA
  obtain ⟨rfl, rfl, rfl⟩ := trodAll_nil r0
  obtain rfl : args = #[v0] := by cases args; simp_all
  obtain ⟨rfl, rfl⟩ := trodVars_none hV
  obtain ⟨a0, rfl, rfl, rfl, w0⟩ := open_int Try.underlying22 (hval 0 22 v0 rfl rfl) h0
  clear hA0 hval0
  refine (walk a0 W w0).mono fun e W' ⟨he, bel⟩ => ?_
  subst he
  exact ⟨_, rfl, _, _, _, [], _, [], hW', trodAll_mk1 (shut_bool Try.underlying4 _), (trodAll_cons_mk (shut_int Try.underlying22 w0) trodAll_mk0), rfl, bel.frame _, fun h => by cases h⟩

theorem over : Rows.rabinPrimesRow.holds Try.pinned (OpenSpec.ofChange Rows.rabinPrimesSpec) :=
  OpenClaim.holds_of_wide 6 Try.f6 rfl rfl rfl rfl rfl rfl rfl ⟨rfl, rfl, rfl, rfl, rfl⟩ rfl rfl rfl rfl rfl (by kernel_rfl) Try.func6 (by kernel_rfl)
    (of_decide_eq_true (by kernel_rfl)) (by unfold Func.isWrapper; first | (rw [if_pos (by decide +kernel)]; kernel_rfl) | (rw [if_neg (by decide +kernel)]; exact ⟨rfl, rfl⟩))
    (fun os started H enc _ => lifted os started H enc)
/-- the given statement -/
theorem proved : Rows.RabinPrimesSaid := over
#print axioms proved
end Go.Proofs.Ytjogiobhgmbboaa.rabinPrimesDone
