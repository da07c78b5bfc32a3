/- LzTwice: for every input the law answers true and leaves its arguments as they were. -/
import Derived.Test.YtnikecjkaciplaaRows
import Derived.Test.YtnikecjkaciplaaLzL
import Derived.Test.YtnikecjkaciplaaLzMath4
import Derived.ProofKit
import Derived.OpenShut
import Derived.ShutString
import Derived.ChangeOld
namespace Go.Proofs.Ytnikecjkaciplaa.lzTwiceDone
open Go.RowKit Mem lz Go.Shelf OM LM oct
set_option linter.unusedVariables false
set_option maxRecDepth 50000 in
set_option maxHeartbeats 4000000 in
theorem walk (A : Option Addr) (n c : Nat) (l : List UInt8) (D : Option Addr) (m d : Nat) (r : List UInt8) (w : World) (hr : Rd w w.heap.size A n (bv l)) (hc : n ≤ c) (hn : n ≤ 9223372036854775807) (hs : Rd w w.heap.size D m (bv r)) (hd : m ≤ d) (hm : m ≤ 9223372036854775807) :
    Calls Try.prog 8 #[.slice A n c, .slice D m d] w fun e w' => e = .returned (.bool true) ∧ Below w.heap.size w w' := by
  have hl : l.length = n := by rw [← hr.len, bv_len]
  have hl2 : r.length = m := by rw [← hs.len, bv_len]
  have HR := Lib.hid hr
  have HS := Lib.hid hs
  clear hr hs
  by_cases hbig : (16384 : Int) < (n : Int)
  · go_enter Try.func8, Try.ntmps8
    go_wp2_with (go_at_call 11; refine (awake_any _).mono ?_; rintro e w1 ⟨rfl, hb1⟩)
    go_ret
    exact ⟨rfl, hb1⟩
  · by_cases hbig2 : (16384 : Int) < (m : Int)
    · go_enter Try.func8, Try.ntmps8
      go_wp2_with (go_at_call 11; refine (awake_any _).mono ?_; rintro e w1 ⟨rfl, hb1⟩)
      go_ret
      exact ⟨rfl, hb1⟩
    · have hsh := fun y (hy : Below w.heap.size w y) => shorten_any A n c w.heap.size l y (HR.out.below hy (Nat.le_refl _)) hy.size hc (by omega)
      have hsr := fun y (hy : Below w.heap.size w y) => shorten_any D m d w.heap.size r y (HS.out.below hy (Nat.le_refl _)) hy.size hd (by omega)
      have hln := shB_len l
      have hlr := shB_len r
      have hbk := twice_ok l r
      rw [hl, hl2] at hbk
      rw [hl] at hln
      rw [hl2] at hlr
      have HBK := Lib.hid hbk
      have HSH := Lib.hid hsh
      have HSR := Lib.hid hsr
      have HLN := Lib.hid (And.intro hln hlr)
      have HLL := Lib.hid (And.intro hl hl2)
      clear hsh hsr hbk hln hlr hl hl2
      go_enter Try.func8, Try.ntmps8
      go_wp2_with fail
      refine (HSH.out w (Below.refl _ _)).mono ?_
      rintro e w1 ⟨A1, N1, c1, rfl, ho1, hb1⟩
      have hN1 : N1 ≤ 40000 := by have h1 := ho1.len; have h2 := HLN.out.1; rw [bv_len] at h1; omega
      go_wp2_with fail
      refine (HSR.out w1 hb1).mono ?_
      rintro e w2 ⟨A2, N2, c2, rfl, ho2, hb2⟩
      have hN2 : N2 ≤ 40000 := by have h1 := ho2.len; have h2 := HLN.out.2; rw [bv_len] at h1; omega
      have hb12 := hb1.trans (hb2.mono hb1.size)
      have hp := Parts.two (ho1.below hb2 (Nat.le_refl _)).rd ho1.cap.1 ho2.rd ho2.cap.1 (Nat.le_refl _) 22
      have htot : tot [shB l, shB r] ≤ 1048576 := by have h1 := ho1.len; have h2 := ho2.len; rw [bv_len] at h1 h2; simp [tot]; omega
      have hbp : Below w2.heap.size w2 (w2.alloc (.cells #[.slice A1 N1 c1, .slice A2 N2 c2] 22)) := (Below.refl _ _).alloc (Nat.le_refl _) _
      have HP := Lib.hid (And.intro hp htot)
      have HB2 := Lib.hid (hb12.trans (hbp.mono hb12.size))
      clear hp htot ho1 ho2 hb1 hb2 hb12 hbp
      go_wp2_with fail
      refine (concat_any _ 2 2 _ [shB l, shB r] _ HP.out.1 (by simp) (by omega) HP.out.2).mono ?_
      rintro e w3 ⟨A3, N3, c3, rfl, ho3, hb3⟩
      have e3 : [shB l, shB r].flatten = shB l ++ shB r := by simp
      rw [e3] at ho3
      have hN3 : N3 ≤ 1048576 := by have h1 := ho3.len; have h2 := HP.out.2; rw [bv_len] at h1; simp [tot] at h2; rw [List.length_append] at h1; omega
      have hb3w := HB2.out.trans (hb3.mono HB2.out.size)
      have hre := restore_any A3 N3 c3 w3.heap.size (shB l ++ shB r) ((n : Nat) + (m : Nat)) w3 ho3.rd (Nat.le_refl _) hN3 (by omega)
      unfold RePost at hre
      rw [HBK.out] at hre
      simp only at hre
      have HRE := Lib.hid hre
      have HB3 := Lib.hid hb3w
      clear hre hb3 hb3w ho3 e3
      go_wp2_with fail
      refine (HRE.out).mono ?_
      rintro e w4 ⟨A4, N4, c4, rfl, ho4, hb4⟩
      have hb4w := HB3.out.trans (hb4.mono HB3.out.size)
      have hq := Parts.two ((HR.out.below hb4w (Nat.le_refl _)).more hb4w.size) hc ((HS.out.below hb4w (Nat.le_refl _)).more hb4w.size) hd (Nat.le_refl _) 22
      have htq : tot [l, r] ≤ 1048576 := by have h1 := HLL.out; simp [tot]; omega
      have hbq : Below w4.heap.size w4 (w4.alloc (.cells #[.slice A n c, .slice D m d] 22)) := (Below.refl _ _).alloc (Nat.le_refl _) _
      have HQ := Lib.hid (And.intro hq htq)
      have HB4 := Lib.hid (And.intro (hb4w.trans (hbq.mono hb4w.size)) (ho4.below hbq (Nat.le_refl _)))
      clear hq htq hbq hb4 hb4w ho4
      go_wp2_with fail
      refine (concat_any _ 2 2 _ [l, r] _ HQ.out.1 (by simp) (by omega) HQ.out.2).mono ?_
      rintro e w5 ⟨A5, N5, c5, rfl, ho5, hb5⟩
      have e5 : [l, r].flatten = l ++ r := by simp
      rw [e5] at ho5
      have hb5w := HB4.out.1.trans (hb5.mono HB4.out.1.size)
      have hr4 := (HB4.out.2.below hb5 (Nat.le_refl _)).rd
      go_wp2_with (first
        | (go_at_call 14; refine (equal_any _ _ _ _ _ _ _ (l ++ r) (l ++ r) _ hr4 ho5.rd).mono ?_; rintro e w' ⟨rfl, rfl⟩; rw [decide_eq_true rfl])
        | (go_at_call 11; refine (awake_any _).mono ?_; rintro e w6 ⟨rfl, hb6⟩)
        | fail)
      go_ret
      exact ⟨rfl, hb5w.trans (hb6.mono hb5w.size)⟩
end Go.Proofs.Ytnikecjkaciplaa.lzTwiceDone
namespace Go.Proofs.Ytnikecjkaciplaa.lzTwiceDone
open Go.ChangeShapes Go.WideShapes Go.ChangeAt Go.RowKit Mem lz Go.Shelf OM LM oct
set_option linter.unusedVariables false
theorem own : ownKnob Try.prog.godebug = none := by kernel_rfl
theorem laidOut : laidOutB Try.prog = true := by kernel_rfl
set_option maxRecDepth 100000 in
theorem lifted (os : Os) (started : os.Started) (H : Type) (enc : TypeId × Value → H) :
    ReturnsInHanded {} Try.checked os 8 .any (Rows.lzTwiceSpec.pre6 enc Try.prog Try.f8 Rows.lzTwiceRow.domain false) (Rows.lzTwiceSpec.post enc Try.prog Try.f8 false true false false) := by
  refine returnsInHanded_of_change (C := Try.checked) own started (by kernel_rfl) Try.func8
    (ChangeSpec.witness6 (enc := enc) (C := Try.checked) false ⟨#[], #[.slice none 0 0, .slice none 0 0], []⟩ 8 (by kernel_rfl) (by kernel_rfl) (by kernel_rfl) (by kernel_rfl)) ?_
  intro W base args ds gs before hval0 hW hcnd _
  have hval : ∀ (j : Nat) t v, Try.f8.params[j]? = some t → args[j]? = some v → Value.okWide Try.prog W .any base t v := hval0
  have hW' := hW
  obtain ⟨p, q, hA0, hV, rfl, hfz, hnd⟩ := hW
  have hA : DataW.TrodAll enc Try.prog W 0 (fun _ => true) true Try.f8.params.toList args.toList ds p := hA0
  rw [Try.params8] at hA hval
  obtain ⟨v0, vs0, d0, ds0, p0, q0, hargs, rfl, rfl, h0, r0⟩ := trodAll_cons hA
  obtain ⟨v1, vs1, d1, ds1, p1, q1, rfl, rfl, rfl, h1, r1⟩ := trodAll_cons r0
  obtain ⟨rfl, rfl, rfl⟩ := trodAll_nil r1
  obtain rfl : args = #[v0, v1] := by cases args; simp_all
  obtain ⟨rfl, rfl⟩ := trodVars_none hV
  obtain ⟨a0, n0, c0, rfl⟩ := okWide_slice Try.underlying22 (hval 0 22 v0 rfl rfl)
  have k0 := h0
  have lt0 : ∀ x ∈ p0, x.block < W.heap.size := by obtain ⟨m, hm⟩ := k0; exact DataW.trod_lt m _ _ _ hm
  obtain ⟨l0, w0, m0, b0⟩ : ∃ l : List UInt8, Rd W W.heap.size a0 n0 (bv l) ∧ n0 ≤ c0 ∧ n0 ≤ 9223372036854775807 := by
    obtain ⟨fuel, hf⟩ := h0
    rcases open_ints Try.underlying22 Try.underlying5 (by kernel_rfl) hf with ⟨hcs, _⟩ | ⟨x, l, c, zs, hcs, _, hl, hm, hz, _, hcell, hwz⟩
    · simp [Value.cells] at hcs
      obtain ⟨rfl, rfl, rfl⟩ := hcs
      exact ⟨[], Rd.nil _ _ _, Nat.le_refl _, by omega⟩
    · simp [Value.cells] at hcs
      obtain ⟨rfl, rfl, rfl⟩ := hcs
      unfold maxLen at hm
      obtain ⟨l, hl2⟩ := rd_bytes hl (by simpa using hz) hcell hwz
      exact ⟨l, hl2, hl, by omega⟩
  obtain ⟨a1, n1, c1, rfl⟩ := okWide_slice Try.underlying22 (hval 1 22 v1 rfl rfl)
  have k1 := h1
  have lt1 : ∀ x ∈ p1, x.block < W.heap.size := by obtain ⟨m, hm⟩ := k1; exact DataW.trod_lt m _ _ _ hm
  obtain ⟨l1, w1, m1, b1⟩ : ∃ l : List UInt8, Rd W W.heap.size a1 n1 (bv l) ∧ n1 ≤ c1 ∧ n1 ≤ 9223372036854775807 := by
    obtain ⟨fuel, hf⟩ := h1
    rcases open_ints Try.underlying22 Try.underlying5 (by kernel_rfl) hf with ⟨hcs, _⟩ | ⟨x, l, c, zs, hcs, _, hl, hm, hz, _, hcell, hwz⟩
    · simp [Value.cells] at hcs
      obtain ⟨rfl, rfl, rfl⟩ := hcs
      exact ⟨[], Rd.nil _ _ _, Nat.le_refl _, by omega⟩
    · simp [Value.cells] at hcs
      obtain ⟨rfl, rfl, rfl⟩ := hcs
      unfold maxLen at hm
      obtain ⟨l, hl2⟩ := rd_bytes hl (by simpa using hz) hcell hwz
      exact ⟨l, hl2, hl, by omega⟩
  clear hA0 hval0
  refine (walk a0 n0 c0 l0 a1 n1 c1 l1 W w0 m0 b0 w1 m1 b1).mono fun e W' ⟨he, bel⟩ => ?_
  subst he
  exact ⟨_, rfl, _, _, _, [], _, [], hW', trodAll_mk1 (shut_bool Try.underlying4 _), (trodAll_cons_mk (Below.trod laidOut (by kernel_rfl) (of_decide_eq_true (by kernel_rfl)) k0 bel lt0) (trodAll_cons_mk (Below.trod laidOut (by kernel_rfl) (of_decide_eq_true (by kernel_rfl)) k1 bel lt1) trodAll_mk0)), rfl, bel.frame _, fun h => by cases h⟩

theorem over : Rows.lzTwiceRow.holds Try.pinned (OpenSpec.ofChange Rows.lzTwiceSpec) :=
  OpenClaim.holds_of_wide 8 Try.f8 rfl rfl rfl rfl rfl rfl rfl ⟨rfl, rfl, rfl, rfl, rfl⟩ rfl rfl rfl rfl rfl (by kernel_rfl) Try.func8 (by kernel_rfl)
    (of_decide_eq_true (by kernel_rfl)) (by unfold Func.isWrapper; first | (rw [if_pos (by decide +kernel)]; kernel_rfl) | (rw [if_neg (by decide +kernel)]; exact ⟨rfl, rfl⟩))
    (fun os started H enc _ => lifted os started H enc)
/-- the given statement -/
theorem proved : Rows.LzTwiceSaid := over
#print axioms proved
end Go.Proofs.Ytnikecjkaciplaa.lzTwiceDone
