/- LzBehind: for every input the law answers true and leaves its arguments as they were. -/
import Derived.Test.YtnikecjkaciplaaRows
import Derived.Test.YtnikecjkaciplaaLzL
import Derived.Test.YtnikecjkaciplaaLzMath4
import Derived.ProofKit
import Derived.OpenShut
import Derived.ShutString
import Derived.ChangeOld
namespace Go.Proofs.Ytnikecjkaciplaa.lzBehindDone
open Go.RowKit Mem lz Go.Shelf OM LM oct
set_option linter.unusedVariables false
set_option maxRecDepth 50000 in
set_option maxHeartbeats 4000000 in
theorem walk (A : Option Addr) (n c : Nat) (l : List UInt8) (D : Option Addr) (m d : Nat) (r : List UInt8) (w : World) (hr : Rd w w.heap.size A n (bv l)) (hc : n ≤ c) (hn : n ≤ 9223372036854775807) (hs : Rd w w.heap.size D m (bv r)) (hd : m ≤ d) (hm : m ≤ 9223372036854775807) :
    Calls Try.prog 7 #[.slice A n c, .slice D m d] w fun e w' => e = .returned (.bool true) ∧ Below w.heap.size w w' := by
  have hl : l.length = n := by rw [← hr.len, bv_len]
  have hl2 : r.length = m := by rw [← hs.len, bv_len]
  have HR := Lib.hid hr
  have HS := Lib.hid hs
  clear hr hs
  by_cases hbig : (2048 : Int) < (n : Int)
  · go_enter Try.func7, Try.ntmps7
    go_wp2_with (go_at_call 11; refine (awake_any _).mono ?_; rintro e w1 ⟨rfl, hb1⟩)
    go_ret
    exact ⟨rfl, hb1⟩
  · by_cases hbig2 : (2048 : Int) < (m : Int)
    · go_enter Try.func7, Try.ntmps7
      go_wp2_with (go_at_call 11; refine (awake_any _).mono ?_; rintro e w1 ⟨rfl, hb1⟩)
      go_ret
      exact ⟨rfl, hb1⟩
    · have h1 := restore_any A n c w.heap.size l 1048576 w HR.out (Nat.le_refl _) (by omega) (by omega)
      unfold RePost at h1
      rw [reB_re] at h1
      obtain ⟨x, er, hx⟩ : ∃ x er, re 1048576 l [] = (x, er) := ⟨_, _, rfl⟩
      obtain ⟨y, er2, hy⟩ : ∃ y er, re 1048576 (l ++ r) [] = (y, er) := ⟨_, _, rfl⟩
      rw [hx] at h1
      simp only at h1
      have hpre : er = 0 → er2 = 0 → x <+: y := fun e1 e2 => by
        subst e1 e2
        have h3 := re_app 1048576 r l.length l [] x (Nat.le_refl _) hx
        rw [hy] at h3
        exact (re_grow 1048576 r.length r x y (Nat.le_refl _) h3.symm).1
      have H1 := Lib.hid h1
      have HY := Lib.hid (And.intro hy hpre)
      have HLL := Lib.hid (And.intro hl hl2)
      clear h1 hx hy hpre hl hl2
      go_enter Try.func7, Try.ntmps7
      go_wp2_with fail
      refine (H1.out).mono ?_
      rintro e w1 ⟨A1, N1, c1, rfl, ho1, hb1⟩
      have hp := Parts.two ((HR.out.below hb1 (Nat.le_refl _)).more hb1.size) hc ((HS.out.below hb1 (Nat.le_refl _)).more hb1.size) hd (Nat.le_refl _) 22
      have htot : tot [l, r] ≤ 4096 := by have h1 := HLL.out; simp [tot]; omega
      have hbp : Below w1.heap.size w1 (w1.alloc (.cells #[.slice A n c, .slice D m d] 22)) := (Below.refl _ _).alloc (Nat.le_refl _) _
      have HP := Lib.hid (And.intro hp htot)
      have HB1 := Lib.hid (And.intro (hb1.trans (hbp.mono hb1.size)) (ho1.below hbp (Nat.le_refl _)))
      clear hp htot ho1 hb1 hbp
      go_wp2_with fail
      refine (concat_any _ 2 2 _ [l, r] _ HP.out.1 (by simp) (by omega) (Nat.le_trans HP.out.2 (by omega))).mono ?_
      rintro e w2 ⟨A2, N2, c2, rfl, ho2, hb2⟩
      have e2 : [l, r].flatten = l ++ r := by simp
      rw [e2] at ho2
      have hN2 : N2 ≤ 1048576 := by have h1 := ho2.len; have h2 := HLL.out; rw [bv_len, List.length_append] at h1; omega
      have hb2w := HB1.out.1.trans (hb2.mono HB1.out.1.size)
      have hre := restore_any A2 N2 c2 w2.heap.size (l ++ r) 1048576 w2 ho2.rd (Nat.le_refl _) hN2 (by omega)
      unfold RePost at hre
      rw [reB_re, HY.out.1] at hre
      simp only at hre
      have HRE := Lib.hid hre
      have HB2 := Lib.hid (And.intro hb2w (HB1.out.2.below hb2 (Nat.le_refl _)))
      clear hre hb2 hb2w ho2 e2
      go_wp2_with fail
      refine (HRE.out).mono ?_
      rintro e w3 ⟨A3, N3, c3, rfl, ho3, hb3⟩
      have hb3w := HB2.out.1.trans (hb3.mono HB2.out.1.size)
      have ho1 := HB2.out.2.below hb3 (Nat.le_refl _)
      have HB3 := Lib.hid (And.intro hb3w (And.intro ho1 ho3))
      clear hb3 hb3w ho1 ho3
      by_cases he1 : er = 0
      · by_cases he2 : er2 = 0
        · subst he1 he2
          have HPR := Lib.hid (HY.out.2 rfl rfl)
          go_wp2_with (first
            | (go_at_call 19; refine (prefix_any _ _ _ _ _ _ _ y x _ HB3.out.2.2.rd HB3.out.2.1.rd HB3.out.2.2.cap.1 HPR.out).mono ?_; rintro e w' ⟨rfl, rfl⟩)
            | (go_at_call 11; refine (awake_any _).mono ?_; rintro e w6 ⟨rfl, hb6⟩)
            | fail)
          go_ret
          exact ⟨rfl, HB3.out.1.trans (hb6.mono HB3.out.1.size)⟩
        · have h2i : ¬ ((er2 : Nat) : Int) = 0 := by omega
          subst he1
          go_wp2_with (first
            | (go_at_call 11; refine (awake_any _).mono ?_; rintro e w6 ⟨rfl, hb6⟩)
            | fail)
          go_ret
          exact ⟨rfl, HB3.out.1.trans (hb6.mono HB3.out.1.size)⟩
      · have h2i : ¬ ((er : Nat) : Int) = 0 := by omega
        go_wp2_with (first
          | (go_at_call 11; refine (awake_any _).mono ?_; rintro e w6 ⟨rfl, hb6⟩)
          | fail)
        go_ret
        exact ⟨rfl, HB3.out.1.trans (hb6.mono HB3.out.1.size)⟩
end Go.Proofs.Ytnikecjkaciplaa.lzBehindDone
namespace Go.Proofs.Ytnikecjkaciplaa.lzBehindDone
open Go.ChangeShapes Go.WideShapes Go.ChangeAt Go.RowKit Mem lz Go.Shelf OM LM oct
set_option linter.unusedVariables false
theorem own : ownKnob Try.prog.godebug = none := by kernel_rfl
theorem laidOut : laidOutB Try.prog = true := by kernel_rfl
set_option maxRecDepth 100000 in
theorem lifted (os : Os) (started : os.Started) (H : Type) (enc : TypeId × Value → H) :
    ReturnsInHanded {} Try.checked os 7 .any (Rows.lzBehindSpec.pre6 enc Try.prog Try.f7 Rows.lzBehindRow.domain false) (Rows.lzBehindSpec.post enc Try.prog Try.f7 false true false false) := by
  refine returnsInHanded_of_change (C := Try.checked) own started (by kernel_rfl) Try.func7
    (ChangeSpec.witness6 (enc := enc) (C := Try.checked) false ⟨#[], #[.slice none 0 0, .slice none 0 0], []⟩ 8 (by kernel_rfl) (by kernel_rfl) (by kernel_rfl) (by kernel_rfl)) ?_
  intro W base args ds gs before hval0 hW hcnd _
  have hval : ∀ (j : Nat) t v, Try.f7.params[j]? = some t → args[j]? = some v → Value.okWide Try.prog W .any base t v := hval0
  have hW' := hW
  obtain ⟨p, q, hA0, hV, rfl, hfz, hnd⟩ := hW
  have hA : DataW.TrodAll enc Try.prog W 0 (fun _ => true) true Try.f7.params.toList args.toList ds p := hA0
  rw [Try.params7] at hA hval
  obtain ⟨v0, vs0, d0, ds0, p0, q0, hargs, rfl, rfl, h0, r0⟩ := trodAll_cons hA
  obtain ⟨v1, vs1, d1, ds1, p1, q1, rfl, rfl, rfl, h1, r1⟩ := trodAll_cons r0
  obtain ⟨rfl, rfl, rfl⟩ := trodAll_nil r1
  obtain rfl : args = #[v0, v1] := by cases args; simp_all
  obtain ⟨rfl, rfl⟩ := trodVars_none hV
  obtain ⟨a0, n0, c0, rfl⟩ := okWide_slice Try.underlying22 (hval 0 22 v0 rfl rfl)
  have k0 := h0
  have lt0 : ∀ x ∈ p0, x.block < W.heap.size := by obtain ⟨m, hm⟩ := k0; exact DataW.trod_lt m _ _ _ hm
  obtain ⟨l0, w0, m0, b0⟩ : ∃ l : List UInt8, Rd W W.heap.size a0 n0 (bv l) ∧ n0 ≤ c0 ∧ n0 ≤ 9223372036854775807 := by
    obtain ⟨fuel, hf⟩ := h0
    rcases open_ints Try.underlying22 Try.underlying5 (by kernel_rfl) hf with ⟨hcs, _⟩ | ⟨x, l, c, zs, hcs, _, hl, hm, hz, _, hcell, hwz⟩
    · simp [Value.cells] at hcs
      obtain ⟨rfl, rfl, rfl⟩ := hcs
      exact ⟨[], Rd.nil _ _ _, Nat.le_refl _, by omega⟩
    · simp [Value.cells] at hcs
      obtain ⟨rfl, rfl, rfl⟩ := hcs
      unfold maxLen at hm
      obtain ⟨l, hl2⟩ := rd_bytes hl (by simpa using hz) hcell hwz
      exact ⟨l, hl2, hl, by omega⟩
  obtain ⟨a1, n1, c1, rfl⟩ := okWide_slice Try.underlying22 (hval 1 22 v1 rfl rfl)
  have k1 := h1
  have lt1 : ∀ x ∈ p1, x.block < W.heap.size := by obtain ⟨m, hm⟩ := k1; exact DataW.trod_lt m _ _ _ hm
  obtain ⟨l1, w1, m1, b1⟩ : ∃ l : List UInt8, Rd W W.heap.size a1 n1 (bv l) ∧ n1 ≤ c1 ∧ n1 ≤ 9223372036854775807 := by
    obtain ⟨fuel, hf⟩ := h1
    rcases open_ints Try.underlying22 Try.underlying5 (by kernel_rfl) hf with ⟨hcs, _⟩ | ⟨x, l, c, zs, hcs, _, hl, hm, hz, _, hcell, hwz⟩
    · simp [Value.cells] at hcs
      obtain ⟨rfl, rfl, rfl⟩ := hcs
      exact ⟨[], Rd.nil _ _ _, Nat.le_refl _, by omega⟩
    · simp [Value.cells] at hcs
      obtain ⟨rfl, rfl, rfl⟩ := hcs
      unfold maxLen at hm
      obtain ⟨l, hl2⟩ := rd_bytes hl (by simpa using hz) hcell hwz
      exact ⟨l, hl2, hl, by omega⟩
  clear hA0 hval0
  refine (walk a0 n0 c0 l0 a1 n1 c1 l1 W w0 m0 b0 w1 m1 b1).mono fun e W' ⟨he, bel⟩ => ?_
  subst he
  exact ⟨_, rfl, _, _, _, [], _, [], hW', trodAll_mk1 (shut_bool Try.underlying4 _), (trodAll_cons_mk (Below.trod laidOut (by kernel_rfl) (of_decide_eq_true (by kernel_rfl)) k0 bel lt0) (trodAll_cons_mk (Below.trod laidOut (by kernel_rfl) (of_decide_eq_true (by kernel_rfl)) k1 bel lt1) trodAll_mk0)), rfl, bel.frame _, fun h => by cases h⟩

theorem over : Rows.lzBehindRow.holds Try.pinned (OpenSpec.ofChange Rows.lzBehindSpec) :=
  OpenClaim.holds_of_wide 7 Try.f7 rfl rfl rfl rfl rfl rfl rfl ⟨rfl, rfl, rfl, rfl, rfl⟩ rfl rfl rfl rfl rfl (by kernel_rfl) Try.func7 (by kernel_rfl)
    (of_decide_eq_true (by kernel_rfl)) (by unfold Func.isWrapper; first | (rw [if_pos (by decide +kernel)]; kernel_rfl) | (rw [if_neg (by decide +kernel)]; exact ⟨rfl, rfl⟩))
    (fun os started H enc _ => lifted os started H enc)
/-- the given statement -/
theorem proved : Rows.LzBehindSaid := over
#print axioms proved
end Go.Proofs.Ytnikecjkaciplaa.lzBehindDone
