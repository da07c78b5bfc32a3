/- OctetOrder: for every input the law answers true and leaves its arguments as they were. -/
import Derived.Test.YtinjkhblpdphoaaRows
import Derived.Test.YtinjkhblpdphoaaOctC
import Derived.ProofKit
import Derived.OpenShut
import Derived.ShutString
import Derived.ChangeOld
namespace Go.Proofs.Ytinjkhblpdphoaa.octetOrderDone
open Go.RowKit Mem OM oct
set_option maxHeartbeats 4000000 in
theorem walk (a b : Int) (w : World) (ha : (Lit.int .i64 a).wf = true) (hb : (Lit.int .i64 b).wf = true) :
    Calls Try.prog 9 #[.int .i64 a, .int .i64 b] w fun e w' => e = .returned (.bool true) ∧ Below w.heap.size w w' := by
  obtain ⟨a0, a1⟩ := int_wf ha
  obtain ⟨b0, b1⟩ := int_wf hb
  clear ha hb
  obtain ⟨p, hp⟩ : ∃ p : Nat, (a < 0 ∧ p = 0) ∨ a = p := by
    by_cases h : a < 0
    · exact ⟨0, Or.inl ⟨h, rfl⟩⟩
    · exact ⟨a.toNat, Or.inr (by omega)⟩
  obtain ⟨q, hq⟩ : ∃ q : Nat, (b < 0 ∧ q = 0) ∨ b = q := by
    by_cases h : b < 0
    · exact ⟨0, Or.inl ⟨h, rfl⟩⟩
    · exact ⟨b.toNat, Or.inr (by omega)⟩
  have hcmp := cmp_num p q (by omega) (by omega)
  have hz : ∃ z : Int, z = Lib.compareBytes (numB p) (numB q) ∧ ((z < 0 ∧ p < q ∧ (z == 0) = false ∧ ((p : Int) == (q : Int)) = false) ∨ (z = 0 ∧ p = q) ∨ (0 < z ∧ q < p ∧ (z == 0) = false ∧ ((p : Int) == (q : Int)) = false)) := by
    refine ⟨_, rfl, ?_⟩
    simp only [beq_eq_false_iff_ne, ne_eq]
    omega
  obtain ⟨z, hz1, hz2⟩ := hz
  have Hz := Lib.hid hz1
  have A0 := Lib.hid a0
  have B0 := Lib.hid b0
  clear hcmp hz1 a0 b0
  rcases hp with ⟨hA, rfl⟩ | rfl <;> rcases hq with ⟨hB, rfl⟩ | rfl <;> rcases hz2 with ⟨z1, z2, z3, z4⟩ | ⟨rfl, z2⟩ | ⟨z1, z2, z3, z4⟩ <;> first | subst z2 | skip
  all_goals try rw [show ((0 : Nat) : Int) = 0 from rfl] at z4
  all_goals first | (exfalso; omega; done) | skip
  all_goals
    go_enter Try.func9, Try.ntmps9
    go_wp2_with fail
    refine (number_any none 0 0 0 _ [] _ (Rd.nil _ _ _) (by omega) (by omega) (by omega) (by omega)).mono ?_
    rintro e w1 ⟨A1, N1, c1, rfl, ho1, hb1⟩
    first | rw [Int.toNat_natCast, List.nil_append] at ho1 | rw [Int.toNat_zero, List.nil_append] at ho1
    go_wp2_with fail
    refine (number_any none 0 0 0 _ [] _ (Rd.nil _ _ _) (by omega) (by omega) (by omega) (by omega)).mono ?_
    rintro e w2 ⟨A2, N2, c2, rfl, ho2, hb2⟩
    first | rw [Int.toNat_natCast, List.nil_append] at ho2 | rw [Int.toNat_zero, List.nil_append] at ho2
    go_wp2_with fail
    refine (compare_any A1 A2 N1 c1 N2 c2 _ _ _ _ (ho1.below hb2 (Nat.le_refl _)).rd ho2.rd).mono ?_
    rintro e w3 ⟨rfl, rfl⟩
    rw [← Hz.out]
    go_wp2_with fail
    refine (awake_any _).mono ?_
    rintro e w4 ⟨rfl, hb4⟩
    go_wp2
    go_ret
    exact ⟨rfl, (hb1.trans (hb2.mono hb1.size)).trans (hb4.mono (Nat.le_trans hb1.size hb2.size))⟩
end Go.Proofs.Ytinjkhblpdphoaa.octetOrderDone
namespace Go.Proofs.Ytinjkhblpdphoaa.octetOrderDone
open Go.ChangeShapes Go.WideShapes Go.ChangeAt Go.RowKit Mem
set_option linter.unusedVariables false
theorem own : ownKnob Try.prog.godebug = none := by kernel_rfl
theorem laidOut : laidOutB Try.prog = true := by kernel_rfl
set_option maxRecDepth 100000 in
theorem lifted (os : Os) (started : os.Started) (H : Type) (enc : TypeId × Value → H) :
    ReturnsInHanded {} Try.checked os 9 .any (Rows.octetOrderSpec.pre6 enc Try.prog Try.f9 Rows.octetOrderRow.domain false) (Rows.octetOrderSpec.post enc Try.prog Try.f9 false true false false) := by
  refine returnsInHanded_of_change (C := Try.checked) own started (by kernel_rfl) Try.func9
    (ChangeSpec.witness6 (enc := enc) (C := Try.checked) false ⟨#[], #[.int .i64 0, .int .i64 0], []⟩ 8 (by kernel_rfl) (by kernel_rfl) (by kernel_rfl) (by kernel_rfl)) ?_
  intro W base args ds gs before hval0 hW hcnd _
  have hval : ∀ (j : Nat) t v, Try.f9.params[j]? = some t → args[j]? = some v → Value.okWide Try.prog W .any base t v := hval0
  have hW' := hW
  obtain ⟨p, q, hA0, hV, rfl, hfz, hnd⟩ := hW
  have hA : DataW.TrodAll enc Try.prog W 0 (fun _ => true) true Try.f9.params.toList args.toList ds p := hA0
  rw [Try.params9] at hA hval
  obtain ⟨v0, vs0, d0, ds0, p0, q0, hargs, rfl, rfl, h0, r0⟩ := trodAll_cons hA
  obtain ⟨v1, vs1, d1, ds1, p1, q1, rfl, rfl, rfl, h1, r1⟩ := trodAll_cons r0
  obtain ⟨rfl, rfl, rfl⟩ := trodAll_nil r1
  obtain rfl : args = #[v0, v1] := by cases args; simp_all
  obtain ⟨rfl, rfl⟩ := trodVars_none hV
  obtain ⟨a0, rfl, rfl, rfl, w0⟩ := open_int Try.underlying3 (hval 0 3 v0 rfl rfl) h0
  obtain ⟨a1, rfl, rfl, rfl, w1⟩ := open_int Try.underlying3 (hval 1 3 v1 rfl rfl) h1
  clear hA0 hval0
  refine (walk a0 a1 W w0 w1).mono fun e W' ⟨he, bel⟩ => ?_
  subst he
  exact ⟨_, rfl, _, _, _, [], _, [], hW', trodAll_mk1 (shut_bool Try.underlying4 _), (trodAll_cons_mk (shut_int Try.underlying3 w0) (trodAll_cons_mk (shut_int Try.underlying3 w1) trodAll_mk0)), rfl, bel.frame _, fun h => by cases h⟩

theorem over : Rows.octetOrderRow.holds Try.pinned (OpenSpec.ofChange Rows.octetOrderSpec) :=
  OpenClaim.holds_of_wide 9 Try.f9 rfl rfl rfl rfl rfl rfl rfl ⟨rfl, rfl, rfl, rfl, rfl⟩ rfl rfl rfl rfl rfl (by kernel_rfl) Try.func9 (by kernel_rfl)
    (of_decide_eq_true (by kernel_rfl)) (by unfold Func.isWrapper; first | (rw [if_pos (by decide +kernel)]; kernel_rfl) | (rw [if_neg (by decide +kernel)]; exact ⟨rfl, rfl⟩))
    (fun os started H enc _ => lifted os started H enc)
/-- the given statement -/
theorem proved : Rows.OctetOrderSaid := over
#print axioms proved
end Go.Proofs.Ytinjkhblpdphoaa.octetOrderDone
