/- LzShortens: for every input the law answers true and leaves its arguments as they were. -/
import Derived.Test.YtnikecjkaciplaaRows
import Derived.Test.YtnikecjkaciplaaLzN
import Derived.ProofKit
import Derived.OpenShut
import Derived.ShutString
import Derived.ChangeOld
namespace Go.Proofs.Ytnikecjkaciplaa.lzShortensDone
open Go.RowKit Mem lz Go.Shelf OM LM oct
set_option linter.unusedVariables false
set_option maxRecDepth 50000 in
set_option maxHeartbeats 2000000 in
theorem walk (A : Option Addr) (n c : Nat) (l : List UInt8) (w : World) (hr : Rd w w.heap.size A n (bv l)) (hc : n ≤ c) (hn : n ≤ 9223372036854775807) :
    Calls Try.prog 3 #[.slice A n c] w fun e w' => e = .returned (.bool true) ∧ Below w.heap.size w w' := by
  have HR := Lib.hid hr
  clear hr
  by_cases hbig : (2048 : Int) < (n : Int)
  · go_enter Try.func3, Try.ntmps3
    go_wp2_with (go_at_call 11; refine (awake_any _).mono ?_; rintro e w1 ⟨rfl, hb1⟩)
    go_ret
    exact ⟨rfl, hb1⟩
  · have hcl := clone_any A n c w.heap.size l w HR.out (Nat.le_refl _) (by omega)
    have HCL := Lib.hid hcl
    have hl : l.length = n := by rw [← HR.out.len, bv_len]
    have HL := Lib.hid hl
    clear hcl hl
    go_enter Try.func3, Try.ntmps3
    go_wp2_with fail
    refine (HCL.out).mono ?_
    rintro e w1 ⟨A1, N1, c1, rfl, ho1, hb1⟩
    obtain rfl : N1 = n := by have := ho1.len; rw [bv_len, HL.out] at this; exact this.symm
    go_wp2_with fail
    refine (shorten_any A1 N1 c1 w1.heap.size l w1 ho1.rd (Nat.le_refl _) ho1.cap.1 (by omega)).mono ?_
    rintro e w2 ⟨A2, N2, c2, rfl, ho2, hb2⟩
    have hb12 := hb1.trans (hb2.mono hb1.size)
    have ho12 := ho1.below hb2 (Nat.le_refl _)
    have HB := Lib.hid (And.intro hb12 (And.intro ho12 ho2))
    clear hb1 hb2 ho1 ho2 hb12 ho12
    go_wp2_with fail
    refine (refShorten_any A N1 c w.heap.size l w2 (HR.out.below HB.out.1 (Nat.le_refl _)) HB.out.1.size hc (by omega)).mono ?_
    rintro e w3 ⟨A3, N3, c3, rfl, ho3, hb3⟩
    have HB3 := Lib.hid (And.intro (HB.out.1.trans (hb3.mono HB.out.1.size)) (And.intro (HB.out.2.1.below hb3 (Nat.le_refl _)).rd (And.intro (HB.out.2.2.below hb3 (Nat.le_refl _)).rd ho3.rd)))
    have HR3 := Lib.hid ((HR.out.below HB3.out.1 (Nat.le_refl _)).more HB3.out.1.size)
    clear hb3 ho3
    go_wp2_with fail
    refine (equal_any _ _ _ _ _ _ _ (shB l) (shB l) _ HB3.out.2.2.1 HB3.out.2.2.2).mono ?_
    rintro e w' ⟨rfl, rfl⟩
    rw [decide_eq_true rfl]
    go_wp2_with fail
    refine (equal_any _ _ _ _ _ _ _ l l _ HB3.out.2.1 HR3.out).mono ?_
    rintro e w' ⟨rfl, rfl⟩
    rw [decide_eq_true rfl]
    go_wp2_with fail
    refine (awake_any _).mono ?_
    rintro e w4 ⟨rfl, hb4⟩
    go_wp2_with fail
    go_ret
    exact ⟨rfl, HB3.out.1.trans (hb4.mono HB3.out.1.size)⟩
end Go.Proofs.Ytnikecjkaciplaa.lzShortensDone
namespace Go.Proofs.Ytnikecjkaciplaa.lzShortensDone
open Go.ChangeShapes Go.WideShapes Go.ChangeAt Go.RowKit Mem lz Go.Shelf OM LM oct
set_option linter.unusedVariables false
theorem own : ownKnob Try.prog.godebug = none := by kernel_rfl
theorem laidOut : laidOutB Try.prog = true := by kernel_rfl
set_option maxRecDepth 100000 in
theorem lifted (os : Os) (started : os.Started) (H : Type) (enc : TypeId × Value → H) :
    ReturnsInHanded {} Try.checked os 3 .any (Rows.lzShortensSpec.pre6 enc Try.prog Try.f3 Rows.lzShortensRow.domain false) (Rows.lzShortensSpec.post enc Try.prog Try.f3 false true false false) := by
  refine returnsInHanded_of_change (C := Try.checked) own started (by kernel_rfl) Try.func3
    (ChangeSpec.witness6 (enc := enc) (C := Try.checked) false ⟨#[], #[.slice none 0 0], []⟩ 8 (by kernel_rfl) (by kernel_rfl) (by kernel_rfl) (by kernel_rfl)) ?_
  intro W base args ds gs before hval0 hW hcnd _
  have hval : ∀ (j : Nat) t v, Try.f3.params[j]? = some t → args[j]? = some v → Value.okWide Try.prog W .any base t v := hval0
  have hW' := hW
  obtain ⟨p, q, hA0, hV, rfl, hfz, hnd⟩ := hW
  have hA : DataW.TrodAll enc Try.prog W 0 (fun _ => true) true Try.f3.params.toList args.toList ds p := hA0
  rw [Try.params3] at hA hval
  obtain ⟨v0, vs0, d0, ds0, p0, q0, hargs, rfl, rfl, h0, r0⟩ := trodAll_cons hA
  obtain ⟨rfl, rfl, rfl⟩ := trodAll_nil r0
  obtain rfl : args = #[v0] := by cases args; simp_all
  obtain ⟨rfl, rfl⟩ := trodVars_none hV
  obtain ⟨a0, n0, c0, rfl⟩ := okWide_slice Try.underlying22 (hval 0 22 v0 rfl rfl)
  have k0 := h0
  have lt0 : ∀ x ∈ p0, x.block < W.heap.size := by obtain ⟨m, hm⟩ := k0; exact DataW.trod_lt m _ _ _ hm
  obtain ⟨l0, w0, m0, b0⟩ : ∃ l : List UInt8, Rd W W.heap.size a0 n0 (bv l) ∧ n0 ≤ c0 ∧ n0 ≤ 9223372036854775807 := by
    obtain ⟨fuel, hf⟩ := h0
    rcases open_ints Try.underlying22 Try.underlying5 (by kernel_rfl) hf with ⟨hcs, _⟩ | ⟨x, l, c, zs, hcs, _, hl, hm, hz, _, hcell, hwz⟩
    · simp [Value.cells] at hcs
      obtain ⟨rfl, rfl, rfl⟩ := hcs
      exact ⟨[], Rd.nil _ _ _, Nat.le_refl _, by omega⟩
    · simp [Value.cells] at hcs
      obtain ⟨rfl, rfl, rfl⟩ := hcs
      unfold maxLen at hm
      obtain ⟨l, hl2⟩ := rd_bytes hl (by simpa using hz) hcell hwz
      exact ⟨l, hl2, hl, by omega⟩
  clear hA0 hval0
  refine (walk a0 n0 c0 l0 W w0 m0 b0).mono fun e W' ⟨he, bel⟩ => ?_
  subst he
  exact ⟨_, rfl, _, _, _, [], _, [], hW', trodAll_mk1 (shut_bool Try.underlying4 _), (trodAll_cons_mk (Below.trod laidOut (by kernel_rfl) (of_decide_eq_true (by kernel_rfl)) k0 bel lt0) trodAll_mk0), rfl, bel.frame _, fun h => by cases h⟩

theorem over : Rows.lzShortensRow.holds Try.pinned (OpenSpec.ofChange Rows.lzShortensSpec) :=
  OpenClaim.holds_of_wide 3 Try.f3 rfl rfl rfl rfl rfl rfl rfl ⟨rfl, rfl, rfl, rfl, rfl⟩ rfl rfl rfl rfl rfl (by kernel_rfl) Try.func3 (by kernel_rfl)
    (of_decide_eq_true (by kernel_rfl)) (by unfold Func.isWrapper; first | (rw [if_pos (by decide +kernel)]; kernel_rfl) | (rw [if_neg (by decide +kernel)]; exact ⟨rfl, rfl⟩))
    (fun os started H enc _ => lifted os started H enc)
/-- the given statement -/
theorem proved : Rows.LzShortensSaid := over
#print axioms proved
end Go.Proofs.Ytnikecjkaciplaa.lzShortensDone
