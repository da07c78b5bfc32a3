/- SeqParts: for every input the law answers true and leaves its arguments as they were. -/
import Derived.Test.YtbkhhcjpcobkkaaRows
import Derived.Test.YtbkhhcjpcobkkaaSeqC
import Derived.Test.YtbkhhcjpcobkkaaSpan
import Derived.ProofKit
import Derived.OpenShut
import Derived.ShutString
import Derived.ChangeOld
namespace Go.Proofs.Ytbkhhcjpcobkkaa.seqPartsDone
open Go.RowKit Mem sq
set_option linter.unusedVariables false
theorem walk (x f a b : Int) (w : World) (hx : (Lit.int .u32 x).wf = true) (hf : (Lit.int .u32 f).wf = true) (ha : (Lit.int .i64 a).wf = true) (hb : (Lit.int .i64 b).wf = true) :
    Calls Try.prog 12 #[.int .u32 x, .int .u32 f, .int .i64 a, .int .i64 b] w fun e w' => e = .returned (.bool true) ∧ Below w.heap.size w w' := by
  clear hx hf ha hb
  have wu : ∀ z : Int, 0 ≤ IntKind.u64.wrap z := fun z => by rw [IntKind.wrap_u64]; omega
  have tm : ∀ z : Int, (IntKind.u64.wrap z).tmod 2147483649 = IntKind.u64.wrap z % 2147483649 := fun z => Int.tmod_eq_emod_of_nonneg (wu z)
  obtain ⟨p, hp⟩ : ∃ p, p = (IntKind.u64.wrap a).tmod 2147483649 := ⟨_, rfl⟩
  obtain ⟨q, hq⟩ : ∃ q, q = (IntKind.u64.wrap b).tmod 2147483649 := ⟨_, rfl⟩
  have p0 : 0 ≤ p ∧ p ≤ 2147483648 := by rw [hp, tm]; omega
  have q0 : 0 ≤ q ∧ q ≤ 2147483648 := by rw [hq, tm]; omega
  have e1 : wrap64 ((IntKind.u64.wrap a).tmod 2147483649) = p := by rw [← hp]; unfold wrap64; omega
  have e2 : wrap64 ((IntKind.u64.wrap b).tmod 2147483649) = q := by rw [← hq]; unfold wrap64; omega
  have hpt := parts x f p q p0.1 p0.2 q0.1 q0.2
  have l1 : ∀ w, Calls Try.prog 20 #[.int .u32 x, .int .u32 f, .int .i64 (p + q)] w fun e w' => e = .returned (.bool (inB x f p || inB x (adz f p) q)) ∧ w = w' := fun w => by rw [← hpt]; exact in_any x f (p + q) w (by omega) (by omega)
  have l2 : ∀ w, Calls Try.prog 20 #[.int .u32 x, .int .u32 f, .int .i64 p] w fun e w' => e = .returned (.bool (inB x f p)) ∧ w = w' := fun w => in_any x f p w (by omega) (by omega)
  have l3 : ∀ w, Calls Try.prog 20 #[.int .u32 x, .int .u32 (adz f p), .int .i64 q] w fun e w' => e = .returned (.bool (inB x (adz f p) q)) ∧ w = w' := fun w => in_any x _ q w (by omega) (by omega)
  generalize inB x f p = s at *
  generalize inB x (adz f p) q = t at *
  have L1 := Lib.hid l1
  have L2 := Lib.hid l2
  have L3 := Lib.hid l3
  clear hp hq hpt l1 l2 l3 wu tm
  cases s <;> cases t
  all_goals
    go_enter Try.func12, Try.ntmps12
    go_wp2_with fail
    refine (L1.out _).mono ?_
    rintro e w' ⟨rfl, rfl⟩
    go_wp2_with fail
    refine (L2.out _).mono ?_
    rintro e w' ⟨rfl, rfl⟩
    go_wp2_with (first
      | (go_at_call 20; refine (L3.out _).mono ?_; rintro e w' ⟨rfl, rfl⟩)
      | (go_at_call 13; refine (add_any _ _ _).mono ?_; rintro e w' ⟨rfl, rfl⟩)
      | (go_at_call 17; refine (awake_any _).mono ?_; rintro e w4 ⟨rfl, hb4⟩))
    go_ret
    exact ⟨rfl, hb4⟩
end Go.Proofs.Ytbkhhcjpcobkkaa.seqPartsDone
namespace Go.Proofs.Ytbkhhcjpcobkkaa.seqPartsDone
open Go.ChangeShapes Go.WideShapes Go.ChangeAt Go.RowKit Mem sq
set_option linter.unusedVariables false
theorem own : ownKnob Try.prog.godebug = none := by kernel_rfl
theorem laidOut : laidOutB Try.prog = true := by kernel_rfl
set_option maxRecDepth 100000 in
theorem lifted (os : Os) (started : os.Started) (H : Type) (enc : TypeId × Value → H) :
    ReturnsInHanded {} Try.checked os 12 .any (Rows.seqPartsSpec.pre6 enc Try.prog Try.f12 Rows.seqPartsRow.domain false) (Rows.seqPartsSpec.post enc Try.prog Try.f12 false true false false) := by
  refine returnsInHanded_of_change (C := Try.checked) own started (by kernel_rfl) Try.func12
    (ChangeSpec.witness6 (enc := enc) (C := Try.checked) false ⟨#[], #[.int .u32 0, .int .u32 0, .int .i64 0, .int .i64 0], []⟩ 8 (by kernel_rfl) (by kernel_rfl) (by kernel_rfl) (by kernel_rfl)) ?_
  intro W base args ds gs before hval0 hW hcnd _
  have hval : ∀ (j : Nat) t v, Try.f12.params[j]? = some t → args[j]? = some v → Value.okWide Try.prog W .any base t v := hval0
  have hW' := hW
  obtain ⟨p, q, hA0, hV, rfl, hfz, hnd⟩ := hW
  have hA : DataW.TrodAll enc Try.prog W 0 (fun _ => true) true Try.f12.params.toList args.toList ds p := hA0
  rw [Try.params12] at hA hval
  obtain ⟨v0, vs0, d0, ds0, p0, q0, hargs, rfl, rfl, h0, r0⟩ := trodAll_cons hA
  obtain ⟨v1, vs1, d1, ds1, p1, q1, rfl, rfl, rfl, h1, r1⟩ := trodAll_cons r0
  obtain ⟨v2, vs2, d2, ds2, p2, q2, rfl, rfl, rfl, h2, r2⟩ := trodAll_cons r1
  obtain ⟨v3, vs3, d3, ds3, p3, q3, rfl, rfl, rfl, h3, r3⟩ := trodAll_cons r2
  obtain ⟨rfl, rfl, rfl⟩ := trodAll_nil r3
  obtain rfl : args = #[v0, v1, v2, v3] := by cases args; simp_all
  obtain ⟨rfl, rfl⟩ := trodVars_none hV
  obtain ⟨a0, rfl, rfl, rfl, w0⟩ := open_int Try.underlying22 (hval 0 22 v0 rfl rfl) h0
  obtain ⟨a1, rfl, rfl, rfl, w1⟩ := open_int Try.underlying22 (hval 1 22 v1 rfl rfl) h1
  obtain ⟨a2, rfl, rfl, rfl, w2⟩ := open_int Try.underlying3 (hval 2 3 v2 rfl rfl) h2
  obtain ⟨a3, rfl, rfl, rfl, w3⟩ := open_int Try.underlying3 (hval 3 3 v3 rfl rfl) h3
  clear hA0 hval0
  refine (walk a0 a1 a2 a3 W w0 w1 w2 w3).mono fun e W' ⟨he, bel⟩ => ?_
  subst he
  exact ⟨_, rfl, _, _, _, [], _, [], hW', trodAll_mk1 (shut_bool Try.underlying4 _), (trodAll_cons_mk (shut_int Try.underlying22 w0) (trodAll_cons_mk (shut_int Try.underlying22 w1) (trodAll_cons_mk (shut_int Try.underlying3 w2) (trodAll_cons_mk (shut_int Try.underlying3 w3) trodAll_mk0)))), rfl, bel.frame _, fun h => by cases h⟩

theorem over : Rows.seqPartsRow.holds Try.pinned (OpenSpec.ofChange Rows.seqPartsSpec) :=
  OpenClaim.holds_of_wide 12 Try.f12 rfl rfl rfl rfl rfl rfl rfl ⟨rfl, rfl, rfl, rfl, rfl⟩ rfl rfl rfl rfl rfl (by kernel_rfl) Try.func12 (by kernel_rfl)
    (of_decide_eq_true (by kernel_rfl)) (by unfold Func.isWrapper; first | (rw [if_pos (by decide +kernel)]; kernel_rfl) | (rw [if_neg (by decide +kernel)]; exact ⟨rfl, rfl⟩))
    (fun os started H enc _ => lifted os started H enc)
/-- the given statement -/
theorem proved : Rows.SeqPartsSaid := over
#print axioms proved
end Go.Proofs.Ytbkhhcjpcobkkaa.seqPartsDone
