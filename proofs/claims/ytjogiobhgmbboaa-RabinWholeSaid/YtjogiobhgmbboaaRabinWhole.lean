/- RabinWhole: for every input the law answers true and leaves its arguments as they were. -/
import Derived.Test.YtjogiobhgmbboaaRows
import Derived.Test.YtjogiobhgmbboaaRbWhole
import Derived.ProofKit
import Derived.OpenShut
import Derived.ShutString
import Derived.ChangeOld
namespace Go.Proofs.Ytjogiobhgmbboaa.rabinWholeDone
open Go.RowKit Mem rb
set_option linter.unusedVariables false
theorem walk (a b p : Int) (w : World) (ha : (Lit.int .u64 a).wf = true) (hb : (Lit.int .u64 b).wf = true) (hp : (Lit.int .u64 p).wf = true) :
    Calls Try.prog 12 #[.int .u64 a, .int .u64 b, .int .u64 p] w fun e w' => e = .returned (.bool true) ∧ Below w.heap.size w w' := by
  replace ha := u64_nat ha
  obtain ⟨a, rfl, ha⟩ := ha
  replace hb := u64_nat hb
  obtain ⟨b, rfl, hb⟩ := hb
  replace hp := u64_nat hp
  obtain ⟨p, rfl, hp⟩ := hp
  have hP : ∀ w, Calls Try.prog 26 #[.int .u64 (p : Nat)] w fun e w' => e = .returned (.bool (primeB p)) ∧ w = w' := fun w => prime_any p w hp
  cases hq : primeB p with
  | false =>
    rw [hq] at hP
    have HP := Lib.hid hP
    clear hP hq
    go_enter Try.func12, Try.ntmps12
    go_wp2_with (first
      | (go_at_call 26; refine (HP.out _).mono ?_; rintro e w' ⟨rfl, rfl⟩)
      | (go_at_call 19; refine (awake_any _).mono ?_; rintro e w4 ⟨rfl, hb4⟩))
    go_ret
    exact ⟨rfl, hb4⟩
  | true =>
    rw [hq] at hP
    have hd : ¬ (dg p < 1 ∨ 31 < dg p) := by
      intro c
      unfold primeB at hq
      rw [if_pos c] at hq; cases hq
    have p0 : p ≠ 0 := by intro e; subst e; rw [dg_zero] at hd; omega
    have hl := dg_pos p0
    have h62 : ¬ (p = 0 ∨ 62 < p.log2) := by omega
    have hw := whole (a := md a p) (b := md b p) hq (md_low p0 a) (md_low p0 b) h62
    have b1 := md_bnd ha hp
    have b2 := md_bnd hb hp
    have hA : ∀ w, Calls Try.prog 17 #[.int .u64 (a : Nat), .int .u64 (p : Nat)] w fun e w' => e = .returned (.int .u64 (md a p : Nat)) ∧ w = w' := fun w => mod_any a p w ha hp
    have hB : ∀ w, Calls Try.prog 17 #[.int .u64 (b : Nat), .int .u64 (p : Nat)] w fun e w' => e = .returned (.int .u64 (md b p : Nat)) ∧ w = w' := fun w => mod_any b p w hb hp
    have hM : ∀ w, Calls Try.prog 20 #[.int .u64 (md a p : Nat), .int .u64 (md b p : Nat), .int .u64 (p : Nat)] w fun e w' => e = .returned (.int .u64 (ml (md a p) (md b p) p : Nat)) ∧ w = w' := fun w => mul_any _ _ p w b1 b2 hp
    generalize ml (md a p) (md b p) p = z at *
    generalize md a p = x at *
    generalize md b p = y at *
    have HP := Lib.hid hP
    have HA := Lib.hid hA
    have HB := Lib.hid hB
    have HM := Lib.hid hM
    clear hP hA hB hM hd hl h62 hq b1 b2
    have hz : ((z : Int) == 0) = (((x : Int) == 0) || ((y : Int) == 0)) := by
      by_cases hx : x = 0
      · have := hw.2 (Or.inl hx)
        subst this; subst hx; simp
      · by_cases hy : y = 0
        · have := hw.2 (Or.inr hy)
          subst this; subst hy; simp
        · have h3 : z ≠ 0 := fun e => (hw.1 e).elim hx hy
          have e1 : ((x : Int) == 0) = false := by rw [beq_eq_false_iff_ne]; omega
          have e2 : ((y : Int) == 0) = false := by rw [beq_eq_false_iff_ne]; omega
          have e3 : ((z : Int) == 0) = false := by rw [beq_eq_false_iff_ne]; omega
          rw [e1, e2, e3]; rfl
    clear hw
    cases hx : ((x : Int) == 0) <;> cases hy : ((y : Int) == 0)
    all_goals
      rw [hx, hy] at hz
      first | (rw [Bool.or_true] at hz) | (rw [Bool.true_or] at hz) | (rw [Bool.or_false] at hz)
      go_enter Try.func12, Try.ntmps12
      go_wp2_with (first
        | (go_at_call 26; refine (HP.out _).mono ?_; rintro e w' ⟨rfl, rfl⟩)
        | (go_at_call 17; with_reducible refine (HA.out _).mono ?_; rintro e w' ⟨rfl, rfl⟩)
        | (go_at_call 17; with_reducible refine (HB.out _).mono ?_; rintro e w' ⟨rfl, rfl⟩)
        | (go_at_call 20; with_reducible refine (HM.out _).mono ?_; rintro e w' ⟨rfl, rfl⟩)
        | (go_at_call 19; refine (awake_any _).mono ?_; rintro e w4 ⟨rfl, hb4⟩))
      go_ret
      exact ⟨rfl, hb4⟩
end Go.Proofs.Ytjogiobhgmbboaa.rabinWholeDone
namespace Go.Proofs.Ytjogiobhgmbboaa.rabinWholeDone
open Go.ChangeShapes Go.WideShapes Go.ChangeAt Go.RowKit Mem rb
set_option linter.unusedVariables false
theorem own : ownKnob Try.prog.godebug = none := by kernel_rfl
theorem laidOut : laidOutB Try.prog = true := by kernel_rfl
set_option maxRecDepth 100000 in
theorem lifted (os : Os) (started : os.Started) (H : Type) (enc : TypeId × Value → H) :
    ReturnsInHanded {} Try.checked os 12 .any (Rows.rabinWholeSpec.pre6 enc Try.prog Try.f12 Rows.rabinWholeRow.domain false) (Rows.rabinWholeSpec.post enc Try.prog Try.f12 false true false false) := by
  refine returnsInHanded_of_change (C := Try.checked) own started (by kernel_rfl) Try.func12
    (ChangeSpec.witness6 (enc := enc) (C := Try.checked) false ⟨#[], #[.int .u64 0, .int .u64 0, .int .u64 0], []⟩ 8 (by kernel_rfl) (by kernel_rfl) (by kernel_rfl) (by kernel_rfl)) ?_
  intro W base args ds gs before hval0 hW hcnd _
  have hval : ∀ (j : Nat) t v, Try.f12.params[j]? = some t → args[j]? = some v → Value.okWide Try.prog W .any base t v := hval0
  have hW' := hW
  obtain ⟨p, q, hA0, hV, rfl, hfz, hnd⟩ := hW
  have hA : DataW.TrodAll enc Try.prog W 0 (fun _ => true) true Try.f12.params.toList args.toList ds p := hA0
  rw [Try.params12] at hA hval
  obtain ⟨v0, vs0, d0, ds0, p0, q0, hargs, rfl, rfl, h0, r0⟩ := trodAll_cons hA
  obtain ⟨v1, vs1, d1, ds1, p1, q1, rfl, rfl, rfl, h1, r1⟩ := trodAll_cons r0
  obtain ⟨v2, vs2, d2, ds2, p2, q2, rfl, rfl, rfl, h2, r2⟩ := trodAll_cons r1
  obtain ⟨rfl, rfl, rfl⟩ := trodAll_nil r2
  obtain rfl : args = #[v0, v1, v2] := by cases args; simp_all
  obtain ⟨rfl, rfl⟩ := trodVars_none hV
  obtain ⟨a0, rfl, rfl, rfl, w0⟩ := open_int Try.underlying22 (hval 0 22 v0 rfl rfl) h0
  obtain ⟨a1, rfl, rfl, rfl, w1⟩ := open_int Try.underlying22 (hval 1 22 v1 rfl rfl) h1
  obtain ⟨a2, rfl, rfl, rfl, w2⟩ := open_int Try.underlying22 (hval 2 22 v2 rfl rfl) h2
  clear hA0 hval0
  refine (walk a0 a1 a2 W w0 w1 w2).mono fun e W' ⟨he, bel⟩ => ?_
  subst he
  exact ⟨_, rfl, _, _, _, [], _, [], hW', trodAll_mk1 (shut_bool Try.underlying4 _), (trodAll_cons_mk (shut_int Try.underlying22 w0) (trodAll_cons_mk (shut_int Try.underlying22 w1) (trodAll_cons_mk (shut_int Try.underlying22 w2) trodAll_mk0))), rfl, bel.frame _, fun h => by cases h⟩

theorem over : Rows.rabinWholeRow.holds Try.pinned (OpenSpec.ofChange Rows.rabinWholeSpec) :=
  OpenClaim.holds_of_wide 12 Try.f12 rfl rfl rfl rfl rfl rfl rfl ⟨rfl, rfl, rfl, rfl, rfl⟩ rfl rfl rfl rfl rfl (by kernel_rfl) Try.func12 (by kernel_rfl)
    (of_decide_eq_true (by kernel_rfl)) (by unfold Func.isWrapper; first | (rw [if_pos (by decide +kernel)]; kernel_rfl) | (rw [if_neg (by decide +kernel)]; exact ⟨rfl, rfl⟩))
    (fun os started H enc _ => lifted os started H enc)
/-- the given statement -/
theorem proved : Rows.RabinWholeSaid := over
#print axioms proved
end Go.Proofs.Ytjogiobhgmbboaa.rabinWholeDone
