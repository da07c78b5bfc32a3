/- RabinLeft: for every input the law answers true and leaves its arguments as they were. -/
import Derived.Test.YtjogiobhgmbboaaRows
import Derived.Test.YtjogiobhgmbboaaRbJ
import Derived.ProofKit
import Derived.OpenShut
import Derived.ShutString
import Derived.ChangeOld
namespace Go.Proofs.Ytjogiobhgmbboaa.rabinLeftDone
open Go.RowKit Mem rb
set_option linter.unusedVariables false
theorem walk (a b p : Int) (w : World) (ha : (Lit.int .u64 a).wf = true) (hb : (Lit.int .u64 b).wf = true) (hp : (Lit.int .u64 p).wf = true) :
    Calls Try.prog 9 #[.int .u64 a, .int .u64 b, .int .u64 p] w fun e w' => e = .returned (.bool true) ∧ Below w.heap.size w w' := by
  replace ha := u64_nat ha
  obtain ⟨a, rfl, ha⟩ := ha
  replace hb := u64_nat hb
  obtain ⟨b, rfl, hb⟩ := hb
  replace hp := u64_nat hp
  obtain ⟨p, rfl, hp⟩ := hp
  have hx : bits .xor .u64 (a : Int) (b : Int) = ((a ^^^ b : Nat) : Int) := u64_xor_nat _ _ ha hb
  have hxb : a ^^^ b < 18446744073709551616 := Nat.xor_lt_two_pow (n := 64) ha hb
  have b1 := md_bnd ha hp
  have b2 := md_bnd hb hp
  have b3 := md_bnd b1 hp
  by_cases c : p = 0
  · subst c
    have h0 : ∀ w, Calls Try.prog 17 #[.int .u64 (a : Nat), .int .u64 0] w fun e w' => e = .returned (.int .u64 (a : Nat)) ∧ w = w' := fun w => by
      have := mod_any a 0 w ha (by decide)
      rwa [md_none] at this
    have H0 := Lib.hid h0
    clear h0 hx hxb b1 b2 b3
    go_enter Try.func9, Try.ntmps9
    go_wp2_with (first
      | (go_at_call 17; refine (H0.out _).mono ?_; rintro e w' ⟨rfl, rfl⟩)
      | (go_at_call 19; refine (awake_any _).mono ?_; rintro e w4 ⟨rfl, hb4⟩))
    go_ret
    exact ⟨rfl, hb4⟩
  · have c1 : ¬ (p : Int) = 0 := by omega
    have c2 : ((p : Int) == 0) = false := by simp [c]
    have d1 := dg_md (a := a) c
    have x2 : bits .xor .u64 ((md a p : Nat) : Int) ((md b p : Nat) : Int) = ((md (a ^^^ b) p : Nat) : Int) := by rw [u64_xor_nat _ _ b1 b2, md_x]
    have hA : ∀ w, Calls Try.prog 17 #[.int .u64 (a : Nat), .int .u64 (p : Nat)] w fun e w' => e = .returned (.int .u64 (md a p : Nat)) ∧ w = w' := fun w => mod_any a p w ha hp
    have hX : ∀ w, Calls Try.prog 17 #[.int .u64 (md a p : Nat), .int .u64 (p : Nat)] w fun e w' => e = .returned (.int .u64 (md a p : Nat)) ∧ w = w' := fun w => by
      have := mod_any (md a p) p w b1 hp
      rwa [md_md] at this
    have hC : ∀ w, Calls Try.prog 17 #[.int .u64 (a ^^^ b : Nat), .int .u64 (p : Nat)] w fun e w' => e = .returned (.int .u64 (md (a ^^^ b) p : Nat)) ∧ w = w' := fun w => mod_any _ p w hxb hp
    have hB : ∀ w, Calls Try.prog 17 #[.int .u64 (b : Nat), .int .u64 (p : Nat)] w fun e w' => e = .returned (.int .u64 (md b p : Nat)) ∧ w = w' := fun w => mod_any b p w hb hp
    generalize a ^^^ b = ab at *
    generalize md a p = x at *
    generalize md b p = y at *
    generalize md ab p = z at *
    have HA := Lib.hid hA
    have HX := Lib.hid hX
    have HC := Lib.hid hC
    have HB := Lib.hid hB
    clear hA hX hC hB
    go_enter Try.func9, Try.ntmps9
    go_wp2_with (first
      | (go_at_call 17; with_reducible refine (HA.out _).mono ?_; rintro e w' ⟨rfl, rfl⟩)
      | (go_at_call 17; with_reducible refine (HX.out _).mono ?_; rintro e w' ⟨rfl, rfl⟩)
      | (go_at_call 17; with_reducible refine (HC.out _).mono ?_; rintro e w' ⟨rfl, rfl⟩)
      | (go_at_call 17; with_reducible refine (HB.out _).mono ?_; rintro e w' ⟨rfl, rfl⟩)
      | (go_at_call 15; refine (deg_any _ _ (by omega)).mono ?_; rintro e w' ⟨rfl, rfl⟩)
      | (go_at_call 19; refine (awake_any _).mono ?_; rintro e w4 ⟨rfl, hb4⟩))
    go_ret
    exact ⟨rfl, hb4⟩
end Go.Proofs.Ytjogiobhgmbboaa.rabinLeftDone
namespace Go.Proofs.Ytjogiobhgmbboaa.rabinLeftDone
open Go.ChangeShapes Go.WideShapes Go.ChangeAt Go.RowKit Mem rb
set_option linter.unusedVariables false
theorem own : ownKnob Try.prog.godebug = none := by kernel_rfl
theorem laidOut : laidOutB Try.prog = true := by kernel_rfl
set_option maxRecDepth 100000 in
theorem lifted (os : Os) (started : os.Started) (H : Type) (enc : TypeId × Value → H) :
    ReturnsInHanded {} Try.checked os 9 .any (Rows.rabinLeftSpec.pre6 enc Try.prog Try.f9 Rows.rabinLeftRow.domain false) (Rows.rabinLeftSpec.post enc Try.prog Try.f9 false true false false) := by
  refine returnsInHanded_of_change (C := Try.checked) own started (by kernel_rfl) Try.func9
    (ChangeSpec.witness6 (enc := enc) (C := Try.checked) false ⟨#[], #[.int .u64 0, .int .u64 0, .int .u64 0], []⟩ 8 (by kernel_rfl) (by kernel_rfl) (by kernel_rfl) (by kernel_rfl)) ?_
  intro W base args ds gs before hval0 hW hcnd _
  have hval : ∀ (j : Nat) t v, Try.f9.params[j]? = some t → args[j]? = some v → Value.okWide Try.prog W .any base t v := hval0
  have hW' := hW
  obtain ⟨p, q, hA0, hV, rfl, hfz, hnd⟩ := hW
  have hA : DataW.TrodAll enc Try.prog W 0 (fun _ => true) true Try.f9.params.toList args.toList ds p := hA0
  rw [Try.params9] at hA hval
  obtain ⟨v0, vs0, d0, ds0, p0, q0, hargs, rfl, rfl, h0, r0⟩ := trodAll_cons hA
  obtain ⟨v1, vs1, d1, ds1, p1, q1, rfl, rfl, rfl, h1, r1⟩ := trodAll_cons r0
  obtain ⟨v2, vs2, d2, ds2, p2, q2, rfl, rfl, rfl, h2, r2⟩ := trodAll_cons r1
  obtain ⟨rfl, rfl, rfl⟩ := trodAll_nil r2
  obtain rfl : args = #[v0, v1, v2] := by cases args; simp_all
  obtain ⟨rfl, rfl⟩ := trodVars_none hV
  obtain ⟨a0, rfl, rfl, rfl, w0⟩ := open_int Try.underlying22 (hval 0 22 v0 rfl rfl) h0
  obtain ⟨a1, rfl, rfl, rfl, w1⟩ := open_int Try.underlying22 (hval 1 22 v1 rfl rfl) h1
  obtain ⟨a2, rfl, rfl, rfl, w2⟩ := open_int Try.underlying22 (hval 2 22 v2 rfl rfl) h2
  clear hA0 hval0
  refine (walk a0 a1 a2 W w0 w1 w2).mono fun e W' ⟨he, bel⟩ => ?_
  subst he
  exact ⟨_, rfl, _, _, _, [], _, [], hW', trodAll_mk1 (shut_bool Try.underlying4 _), (trodAll_cons_mk (shut_int Try.underlying22 w0) (trodAll_cons_mk (shut_int Try.underlying22 w1) (trodAll_cons_mk (shut_int Try.underlying22 w2) trodAll_mk0))), rfl, bel.frame _, fun h => by cases h⟩

theorem over : Rows.rabinLeftRow.holds Try.pinned (OpenSpec.ofChange Rows.rabinLeftSpec) :=
  OpenClaim.holds_of_wide 9 Try.f9 rfl rfl rfl rfl rfl rfl rfl ⟨rfl, rfl, rfl, rfl, rfl⟩ rfl rfl rfl rfl rfl (by kernel_rfl) Try.func9 (by kernel_rfl)
    (of_decide_eq_true (by kernel_rfl)) (by unfold Func.isWrapper; first | (rw [if_pos (by decide +kernel)]; kernel_rfl) | (rw [if_neg (by decide +kernel)]; exact ⟨rfl, rfl⟩))
    (fun os started H enc _ => lifted os started H enc)
/-- the given statement -/
theorem proved : Rows.RabinLeftSaid := over
#print axioms proved
end Go.Proofs.Ytjogiobhgmbboaa.rabinLeftDone
