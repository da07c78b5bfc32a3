/- RabinProducts: for every input the law answers true and leaves its arguments as they were. -/
import Derived.Test.YtjogiobhgmbboaaRows
import Derived.Test.YtjogiobhgmbboaaRbJ
import Derived.ProofKit
import Derived.OpenShut
import Derived.ShutString
import Derived.ChangeOld
namespace Go.Proofs.Ytjogiobhgmbboaa.rabinProductsDone
open Go.RowKit Mem rb
set_option linter.unusedVariables false
theorem walk (a b c p : Int) (w : World) (ha : (Lit.int .u64 a).wf = true) (hb : (Lit.int .u64 b).wf = true) (hc : (Lit.int .u64 c).wf = true) (hp : (Lit.int .u64 p).wf = true) :
    Calls Try.prog 10 #[.int .u64 a, .int .u64 b, .int .u64 c, .int .u64 p] w fun e w' => e = .returned (.bool true) ∧ Below w.heap.size w w' := by
  replace ha := u64_nat ha
  obtain ⟨a, rfl, ha⟩ := ha
  replace hb := u64_nat hb
  obtain ⟨b, rfl, hb⟩ := hb
  replace hc := u64_nat hc
  obtain ⟨c, rfl, hc⟩ := hc
  replace hp := u64_nat hp
  obtain ⟨p, rfl, hp⟩ := hp
  have hx : bits .xor .u64 (b : Int) (c : Int) = ((b ^^^ c : Nat) : Int) := u64_xor_nat _ _ hb hc
  have hxb : b ^^^ c < 18446744073709551616 := Nat.xor_lt_two_pow (n := 64) hb hc
  have hAB : ∀ w, Calls Try.prog 20 #[.int .u64 (a : Nat), .int .u64 (b : Nat), .int .u64 (p : Nat)] w fun e w' => e = .returned (.int .u64 (ml a b p : Nat)) ∧ w = w' := fun w => mul_any a b p w ha hb hp
  have hBA : ∀ w, Calls Try.prog 20 #[.int .u64 (b : Nat), .int .u64 (a : Nat), .int .u64 (p : Nat)] w fun e w' => e = .returned (.int .u64 (ml a b p : Nat)) ∧ w = w' := fun w => by rw [ml_comm]; exact mul_any b a p w hb ha hp
  have hAC : ∀ w, Calls Try.prog 20 #[.int .u64 (a : Nat), .int .u64 (c : Nat), .int .u64 (p : Nat)] w fun e w' => e = .returned (.int .u64 (ml a c p : Nat)) ∧ w = w' := fun w => mul_any a c p w ha hc hp
  have hAX : ∀ w, Calls Try.prog 20 #[.int .u64 (a : Nat), .int .u64 (b ^^^ c : Nat), .int .u64 (p : Nat)] w fun e w' => e = .returned (.int .u64 (ml a b p ^^^ ml a c p : Nat)) ∧ w = w' := fun w => by rw [← ml_xr]; exact mul_any a _ p w ha hxb hp
  have hA1 : ∀ w, Calls Try.prog 20 #[.int .u64 (a : Nat), .int .u64 1, .int .u64 (p : Nat)] w fun e w' => e = .returned (.int .u64 (ml a 1 p : Nat)) ∧ w = w' := fun w => mul_any a 1 p w ha (by decide) hp
  have hM : ∀ w, Calls Try.prog 17 #[.int .u64 (a : Nat), .int .u64 (p : Nat)] w fun e w' => e = .returned (.int .u64 (md a p : Nat)) ∧ w = w' := fun w => mod_any a p w ha hp
  have bb := ml_bound (a := a) (b := b) hp
  have bc := ml_bound (a := a) (b := c) hp
  have hy : bits .xor .u64 ((ml a b p : Nat) : Int) ((ml a c p : Nat) : Int) = ((ml a b p ^^^ ml a c p : Nat) : Int) := u64_xor_nat _ _ bb bc
  by_cases n : p = 0 ∨ 62 < p.log2
  · have h0 : ml a b p = 0 := ml_none n
    rw [h0] at hAB
    have HAB := Lib.hid hAB
    clear hAB hBA hAC hAX hA1 hM bb bc hy hx hxb h0
    rcases Nat.eq_zero_or_pos p with z | z
    · subst z
      go_enter Try.func10, Try.ntmps10
      go_wp2_with (first
        | (go_at_call 20; refine (HAB.out _).mono ?_; rintro e w' ⟨rfl, rfl⟩)
        | (go_at_call 19; refine (awake_any _).mono ?_; rintro e w4 ⟨rfl, hb4⟩))
      go_ret
      exact ⟨rfl, hb4⟩
    · have d1 : (62 : Int) < dg p := by rw [dg_pos (by omega)]; omega
      have q1 : ¬ (p : Int) = 0 := by omega
      have q2 : ((p : Int) == 0) = false := by rw [beq_eq_false_iff_ne]; omega
      clear n
      go_enter Try.func10, Try.ntmps10
      go_wp2_with (first
        | (go_at_call 20; refine (HAB.out _).mono ?_; rintro e w' ⟨rfl, rfl⟩)
        | (go_at_call 15; refine (deg_any _ _ (by omega)).mono ?_; rintro e w' ⟨rfl, rfl⟩)
        | (go_at_call 19; refine (awake_any _).mono ?_; rintro e w4 ⟨rfl, hb4⟩))
      go_ret
      exact ⟨rfl, hb4⟩
  · rw [ml_one n] at hA1
    have d1 : ¬ (62 : Int) < dg p := by rw [dg_pos (by omega)]; omega
    have q1 : ¬ (p : Int) = 0 := by omega
    have q2 : ((p : Int) == 0) = false := by rw [beq_eq_false_iff_ne]; omega
    generalize b ^^^ c = bc2 at *
    generalize ml a b p = x at *
    generalize ml a c p = y at *
    generalize md a p = z at *
    have HAB := Lib.hid hAB
    have HBA := Lib.hid hBA
    have HAC := Lib.hid hAC
    have HAX := Lib.hid hAX
    have HA1 := Lib.hid hA1
    have HM := Lib.hid hM
    clear hAB hBA hAC hAX hA1 hM n
    go_enter Try.func10, Try.ntmps10
    go_wp2_with (first
      | (go_at_call 15; refine (deg_any _ _ (by omega)).mono ?_; rintro e w' ⟨rfl, rfl⟩)
      | (go_at_call 20; with_reducible refine (HAB.out _).mono ?_; rintro e w' ⟨rfl, rfl⟩)
      | (go_at_call 20; with_reducible refine (HBA.out _).mono ?_; rintro e w' ⟨rfl, rfl⟩)
      | (go_at_call 20; with_reducible refine (HAX.out _).mono ?_; rintro e w' ⟨rfl, rfl⟩)
      | (go_at_call 20; with_reducible refine (HAC.out _).mono ?_; rintro e w' ⟨rfl, rfl⟩)
      | (go_at_call 20; with_reducible refine (HA1.out _).mono ?_; rintro e w' ⟨rfl, rfl⟩)
      | (go_at_call 17; refine (HM.out _).mono ?_; rintro e w' ⟨rfl, rfl⟩)
      | (go_at_call 19; refine (awake_any _).mono ?_; rintro e w4 ⟨rfl, hb4⟩))
    go_ret
    exact ⟨rfl, hb4⟩
end Go.Proofs.Ytjogiobhgmbboaa.rabinProductsDone
namespace Go.Proofs.Ytjogiobhgmbboaa.rabinProductsDone
open Go.ChangeShapes Go.WideShapes Go.ChangeAt Go.RowKit Mem rb
set_option linter.unusedVariables false
theorem own : ownKnob Try.prog.godebug = none := by kernel_rfl
theorem laidOut : laidOutB Try.prog = true := by kernel_rfl
set_option maxRecDepth 100000 in
theorem lifted (os : Os) (started : os.Started) (H : Type) (enc : TypeId × Value → H) :
    ReturnsInHanded {} Try.checked os 10 .any (Rows.rabinProductsSpec.pre6 enc Try.prog Try.f10 Rows.rabinProductsRow.domain false) (Rows.rabinProductsSpec.post enc Try.prog Try.f10 false true false false) := by
  refine returnsInHanded_of_change (C := Try.checked) own started (by kernel_rfl) Try.func10
    (ChangeSpec.witness6 (enc := enc) (C := Try.checked) false ⟨#[], #[.int .u64 0, .int .u64 0, .int .u64 0, .int .u64 0], []⟩ 8 (by kernel_rfl) (by kernel_rfl) (by kernel_rfl) (by kernel_rfl)) ?_
  intro W base args ds gs before hval0 hW hcnd _
  have hval : ∀ (j : Nat) t v, Try.f10.params[j]? = some t → args[j]? = some v → Value.okWide Try.prog W .any base t v := hval0
  have hW' := hW
  obtain ⟨p, q, hA0, hV, rfl, hfz, hnd⟩ := hW
  have hA : DataW.TrodAll enc Try.prog W 0 (fun _ => true) true Try.f10.params.toList args.toList ds p := hA0
  rw [Try.params10] at hA hval
  obtain ⟨v0, vs0, d0, ds0, p0, q0, hargs, rfl, rfl, h0, r0⟩ := trodAll_cons hA
  obtain ⟨v1, vs1, d1, ds1, p1, q1, rfl, rfl, rfl, h1, r1⟩ := trodAll_cons r0
  obtain ⟨v2, vs2, d2, ds2, p2, q2, rfl, rfl, rfl, h2, r2⟩ := trodAll_cons r1
  obtain ⟨v3, vs3, d3, ds3, p3, q3, rfl, rfl, rfl, h3, r3⟩ := trodAll_cons r2
  obtain ⟨rfl, rfl, rfl⟩ := trodAll_nil r3
  obtain rfl : args = #[v0, v1, v2, v3] := by cases args; simp_all
  obtain ⟨rfl, rfl⟩ := trodVars_none hV
  obtain ⟨a0, rfl, rfl, rfl, w0⟩ := open_int Try.underlying22 (hval 0 22 v0 rfl rfl) h0
  obtain ⟨a1, rfl, rfl, rfl, w1⟩ := open_int Try.underlying22 (hval 1 22 v1 rfl rfl) h1
  obtain ⟨a2, rfl, rfl, rfl, w2⟩ := open_int Try.underlying22 (hval 2 22 v2 rfl rfl) h2
  obtain ⟨a3, rfl, rfl, rfl, w3⟩ := open_int Try.underlying22 (hval 3 22 v3 rfl rfl) h3
  clear hA0 hval0
  refine (walk a0 a1 a2 a3 W w0 w1 w2 w3).mono fun e W' ⟨he, bel⟩ => ?_
  subst he
  exact ⟨_, rfl, _, _, _, [], _, [], hW', trodAll_mk1 (shut_bool Try.underlying4 _), (trodAll_cons_mk (shut_int Try.underlying22 w0) (trodAll_cons_mk (shut_int Try.underlying22 w1) (trodAll_cons_mk (shut_int Try.underlying22 w2) (trodAll_cons_mk (shut_int Try.underlying22 w3) trodAll_mk0)))), rfl, bel.frame _, fun h => by cases h⟩

theorem over : Rows.rabinProductsRow.holds Try.pinned (OpenSpec.ofChange Rows.rabinProductsSpec) :=
  OpenClaim.holds_of_wide 10 Try.f10 rfl rfl rfl rfl rfl rfl rfl ⟨rfl, rfl, rfl, rfl, rfl⟩ rfl rfl rfl rfl rfl (by kernel_rfl) Try.func10 (by kernel_rfl)
    (of_decide_eq_true (by kernel_rfl)) (by unfold Func.isWrapper; first | (rw [if_pos (by decide +kernel)]; kernel_rfl) | (rw [if_neg (by decide +kernel)]; exact ⟨rfl, rfl⟩))
    (fun os started H enc _ => lifted os started H enc)
/-- the given statement -/
theorem proved : Rows.RabinProductsSaid := over
#print axioms proved
end Go.Proofs.Ytjogiobhgmbboaa.rabinProductsDone
