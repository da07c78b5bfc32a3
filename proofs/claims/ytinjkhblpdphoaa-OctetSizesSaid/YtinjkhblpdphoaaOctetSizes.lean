/- OctetSizes: for every input the law answers true and leaves its arguments as they were. -/
import Derived.Test.YtinjkhblpdphoaaRows
import Derived.Test.YtinjkhblpdphoaaOctAwake
import Derived.ProofKit
import Derived.OpenShut
import Derived.ShutString
import Derived.ChangeOld
namespace Go.Proofs.Ytinjkhblpdphoaa.octetSizesDone
open Go.RowKit Mem OM oct
set_option maxHeartbeats 1000000 in
theorem walk (x : Int) (w : World) (hx : (Lit.int .i64 x).wf = true) :
    Calls Try.prog 11 #[.int .i64 x] w fun e w' => e = .returned (.bool true) ∧ Below w.heap.size w w' := by
  obtain ⟨x0, x1⟩ := int_wf hx
  clear hx
  have hlo : fol x.toNat = 0 ∨ pw (fol x.toNat - 1) ≤ x.toNat := by
    by_cases h : fol x.toNat = 0
    · exact Or.inl h
    · exact Or.inr (fol_ge _ _ (by omega))
  have hhi : fol x.toNat = 8 ∨ x.toNat < pw (fol x.toNat) := by
    by_cases h : fol x.toNat = 8
    · exact Or.inl h
    · exact Or.inr (fol_lt _ h)
  have h8 := fol_le x.toNat
  obtain ⟨f, hf⟩ : ∃ f, f = fol x.toNat := ⟨_, rfl⟩
  rw [← hf] at hlo hhi h8
  have Hf := Lib.hid hf
  clear hf
  by_cases hneg : x < 0
  · have hf0 : f = 0 := by rw [Hf.out, show x.toNat = 0 from by omega]; decide
    clear hlo hhi h8
    have X0 := Lib.hid x0
    clear x0 x1
    go_enter Try.func11, Try.ntmps11
    go_wp2_with fail
    refine (number_any none 0 0 0 x [] _ (Rd.nil _ _ _) (by omega) (by omega) X0.out (by omega)).mono ?_
    rintro e w1 ⟨A1, N1, c1, rfl, ho1, hb1⟩
    have hN : N1 = 1 := by have := ho1.len; rw [bv_len, List.nil_append, numB_len, ← Hf.out] at this; omega
    subst hN
    clear hf0
    go_wp2_with fail
    refine (awake_any _).mono ?_
    rintro e w2 ⟨rfl, hb2⟩
    go_wp2
    go_ret
    exact ⟨rfl, hb1.trans (hb2.mono hb1.size)⟩
  · obtain ⟨u, rfl⟩ := Int.eq_ofNat_of_zero_le (show 0 ≤ x by omega)
    rw [Int.toNat_natCast] at *
    have X1 := Lib.hid x1
    clear x0 x1 hneg
    have hcase := size_cases u f Hf.out
    clear hlo hhi h8
    go_enter Try.func11, Try.ntmps11
    go_wp2_with fail
    refine (number_any none 0 0 0 _ [] _ (Rd.nil _ _ _) (by omega) (by omega) (by omega) X1.out).mono ?_
    rintro e w1 ⟨A1, N1, c1, rfl, ho1, hb1⟩
    have hN : N1 = f + 1 := by have := ho1.len; rw [bv_len, List.nil_append, Int.toNat_natCast, numB_len, ← Hf.out] at this; omega
    rcases hcase with ⟨rfl, h2⟩ | ⟨rfl, h1, h2⟩ | ⟨rfl, h1, h2⟩ | ⟨rfl, h1, h2⟩ | ⟨rfl, h1, h2⟩ | ⟨rfl, h1, h2⟩ | ⟨rfl, h1, h2⟩ | ⟨rfl, h1, h2⟩ | ⟨rfl, h1⟩
    all_goals
      subst hN
      go_wp2_with fail
      refine (awake_any _).mono ?_
      rintro e w2 ⟨rfl, hb2⟩
      go_wp2
      go_ret
      exact ⟨rfl, hb1.trans (hb2.mono hb1.size)⟩
end Go.Proofs.Ytinjkhblpdphoaa.octetSizesDone
namespace Go.Proofs.Ytinjkhblpdphoaa.octetSizesDone
open Go.ChangeShapes Go.WideShapes Go.ChangeAt Go.RowKit Mem
set_option linter.unusedVariables false
theorem own : ownKnob Try.prog.godebug = none := by kernel_rfl
theorem laidOut : laidOutB Try.prog = true := by kernel_rfl
set_option maxRecDepth 100000 in
theorem lifted (os : Os) (started : os.Started) (H : Type) (enc : TypeId × Value → H) :
    ReturnsInHanded {} Try.checked os 11 .any (Rows.octetSizesSpec.pre6 enc Try.prog Try.f11 Rows.octetSizesRow.domain false) (Rows.octetSizesSpec.post enc Try.prog Try.f11 false true false false) := by
  refine returnsInHanded_of_change (C := Try.checked) own started (by kernel_rfl) Try.func11
    (ChangeSpec.witness6 (enc := enc) (C := Try.checked) false ⟨#[], #[.int .i64 0], []⟩ 8 (by kernel_rfl) (by kernel_rfl) (by kernel_rfl) (by kernel_rfl)) ?_
  intro W base args ds gs before hval0 hW hcnd _
  have hval : ∀ (j : Nat) t v, Try.f11.params[j]? = some t → args[j]? = some v → Value.okWide Try.prog W .any base t v := hval0
  have hW' := hW
  obtain ⟨p, q, hA0, hV, rfl, hfz, hnd⟩ := hW
  have hA : DataW.TrodAll enc Try.prog W 0 (fun _ => true) true Try.f11.params.toList args.toList ds p := hA0
  rw [Try.params11] at hA hval
  obtain ⟨v0, vs0, d0, ds0, p0, q0, hargs, rfl, rfl, h0, r0⟩ := trodAll_cons hA
  obtain ⟨rfl, rfl, rfl⟩ := trodAll_nil r0
  obtain rfl : args = #[v0] := by cases args; simp_all
  obtain ⟨rfl, rfl⟩ := trodVars_none hV
  obtain ⟨a0, rfl, rfl, rfl, w0⟩ := open_int Try.underlying3 (hval 0 3 v0 rfl rfl) h0
  clear hA0 hval0
  refine (walk a0 W w0).mono fun e W' ⟨he, bel⟩ => ?_
  subst he
  exact ⟨_, rfl, _, _, _, [], _, [], hW', trodAll_mk1 (shut_bool Try.underlying4 _), (trodAll_cons_mk (shut_int Try.underlying3 w0) trodAll_mk0), rfl, bel.frame _, fun h => by cases h⟩

theorem over : Rows.octetSizesRow.holds Try.pinned (OpenSpec.ofChange Rows.octetSizesSpec) :=
  OpenClaim.holds_of_wide 11 Try.f11 rfl rfl rfl rfl rfl rfl rfl ⟨rfl, rfl, rfl, rfl, rfl⟩ rfl rfl rfl rfl rfl (by kernel_rfl) Try.func11 (by kernel_rfl)
    (of_decide_eq_true (by kernel_rfl)) (by unfold Func.isWrapper; first | (rw [if_pos (by decide +kernel)]; kernel_rfl) | (rw [if_neg (by decide +kernel)]; exact ⟨rfl, rfl⟩))
    (fun os started H enc _ => lifted os started H enc)
/-- the given statement -/
theorem proved : Rows.OctetSizesSaid := over
#print axioms proved
end Go.Proofs.Ytinjkhblpdphoaa.octetSizesDone
