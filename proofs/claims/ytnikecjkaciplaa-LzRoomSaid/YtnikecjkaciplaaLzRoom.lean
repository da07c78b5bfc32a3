/- LzRoom: for every input the law answers true and leaves its arguments as they were. -/
import Derived.Test.YtnikecjkaciplaaRows
import Derived.Test.YtnikecjkaciplaaLzK
import Derived.Test.YtnikecjkaciplaaLzMath3
import Derived.ProofKit
import Derived.OpenShut
import Derived.ShutString
import Derived.ChangeOld
namespace Go.Proofs.Ytnikecjkaciplaa.lzRoomDone
open Go.RowKit Mem lz Go.Shelf OM LM oct
set_option linter.unusedVariables false
set_option maxRecDepth 50000 in
set_option maxHeartbeats 2000000 in
theorem walk (A : Option Addr) (n c : Nat) (l : List UInt8) (room : Int) (w : World) (hr : Rd w w.heap.size A n (bv l)) (hc : n ≤ c) (hn : n ≤ 9223372036854775807) (hw : (Lit.int .i64 room).wf = true) :
    Calls Try.prog 9 #[.slice A n c, .int .i64 room] w fun e w' => e = .returned (.bool true) ∧ Below w.heap.size w w' := by
  have hw2 := int_wf hw
  have hl : l.length = n := by rw [← hr.len, bv_len]
  have HR := Lib.hid hr
  clear hr hw
  by_cases hbig : (2048 : Int) < (n : Int)
  · go_enter Try.func9, Try.ntmps9
    go_wp2_with (go_at_call 11; refine (awake_any _).mono ?_; rintro e w1 ⟨rfl, hb1⟩)
    go_ret
    exact ⟨rfl, hb1⟩
  · have h1 := restore_any A n c w.heap.size l 1048576 w HR.out (Nat.le_refl _) (by omega) (by omega)
    unfold RePost at h1
    rw [reB_re] at h1
    have hmore := re_more 1048576 
    have herr := re_err 1048576 l.length l [] (Nat.le_refl _)
    obtain ⟨x, er, hx⟩ : ∃ x er, re 1048576 l [] = (x, er) := ⟨_, _, rfl⟩
    rw [hx] at h1 herr
    simp only at h1 herr
    have H1 := Lib.hid h1
    clear h1
    by_cases he : er = 0
    · subst he
      have hgrow := re_grow 1048576 l.length l [] x (Nat.le_refl _) hx
      have hxl : x.length ≤ 1048576 := by
        rcases hgrow.2 with ⟨h, _⟩ | ⟨_, h⟩
        · rw [← h]; simp
        · omega
      have h2 := fun y (hy : Below w.heap.size w y) => restore_any A n c w.heap.size l (x.length : Nat) y (HR.out.below hy (Nat.le_refl _)) hy.size (by omega) (by omega)
      have h3 := fun y (hy : Below w.heap.size w y) => restore_any A n c w.heap.size l room y (HR.out.below hy (Nat.le_refl _)) hy.size (by omega) hw2
      have hm2 := (re_more 1048576 (x.length : Nat) l.length l [] x (Nat.le_refl _) hx).1 (Int.le_refl _)
      have hm3 := re_more 1048576 room l.length l [] x (Nat.le_refl _) hx
      unfold RePost at h2 h3
      simp only [reB_re, hm2] at h2
      simp only [reB_re] at h3
      obtain ⟨k, hk⟩ : ∃ k, x.length = k := ⟨_, rfl⟩
      rw [hk] at h2 hxl
      have HX := Lib.hid (And.intro hk (And.intro hm3 hgrow))
      have H2 := Lib.hid h2
      have H3 := Lib.hid h3
      clear h2 h3 hm2 hm3 hgrow herr hmore hk
      go_enter Try.func9, Try.ntmps9
      go_wp2_with fail
      refine (H1.out).mono ?_
      rintro e w1 ⟨A1, N1, c1, rfl, ho1, hb1⟩
      obtain rfl : N1 = k := by have := ho1.len; rw [bv_len, HX.out.1] at this; exact this.symm
      go_wp2_with fail
      refine (H2.out w1 hb1).mono ?_
      rintro e w2 ⟨A2, N2, c2, rfl, ho2, hb2⟩
      have hb12 := hb1.trans (hb2.mono hb1.size)
      have hr1 := (ho1.below hb2 (Nat.le_refl _)).rd
      go_wp2_with fail
      refine (equal_any _ _ _ _ _ _ _ x x _ hr1 ho2.rd).mono ?_
      rintro e w' ⟨rfl, rfl⟩
      rw [decide_eq_true rfl]
      go_wp2_with fail
      refine (H3.out _ hb12).mono ?_
      rintro e w3 ⟨A3, N3, c3, rfl, ho3, hb3⟩
      have hb123 := hb12.trans (hb3.mono hb12.size)
      have hr13 := ((ho1.below hb2 (Nat.le_refl _)).below hb3 (Nat.le_refl _)).rd
      by_cases hroom : (N1 : Int) ≤ room
      · have he3 := HX.out.2.1.1 (by rw [HX.out.1]; exact hroom)
        rw [he3] at ho3 ⊢
        simp only at ho3 ⊢
        go_wp2_with (first
          | (go_at_call 14; refine (equal_any _ _ _ _ _ _ _ x x _ hr13 ho3.rd).mono ?_; rintro e w' ⟨rfl, rfl⟩; rw [decide_eq_true rfl])
          | (go_at_call 11; refine (awake_any _).mono ?_; rintro e w4 ⟨rfl, hb4⟩)
          | fail)
        go_ret
        exact ⟨rfl, hb123.trans (hb4.mono hb123.size)⟩
      · by_cases hx0 : N1 = 0
        · have hxn : x = [] := List.length_eq_zero_iff.1 (by rw [HX.out.1]; exact hx0)
          have hln : l = [] := by
            rcases HX.out.2.2.2 with ⟨_, h⟩ | ⟨h, _⟩
            · exact h
            · rw [hxn] at h; simp at h
          have he3 : re room l [] = ([], 0) := by rw [hln]; rfl
          rw [he3] at ho3 ⊢
          simp only at ho3 ⊢
          subst hxn
          subst hx0
          go_wp2_with (first
            | (go_at_call 14; refine (equal_any _ _ _ _ _ _ _ [] [] _ hr13 ho3.rd).mono ?_; rintro e w' ⟨rfl, rfl⟩; rw [decide_eq_true rfl])
            | (go_at_call 11; refine (awake_any _).mono ?_; rintro e w4 ⟨rfl, hb4⟩)
            | fail)
          go_ret
          exact ⟨rfl, hb123.trans (hb4.mono hb123.size)⟩
        · have he3 := HX.out.2.1.2 (by rw [HX.out.1]; omega) (by rw [HX.out.1]; simp; omega)
          rw [he3] at ho3 ⊢
          simp only at ho3 ⊢
          obtain rfl : N3 = 0 := by have := ho3.len; simpa [bv] using this.symm
          have hx1 : ¬ (N1 : Int) = 0 := by omega
          go_wp2_with (first
            | (go_at_call 11; refine (awake_any _).mono ?_; rintro e w4 ⟨rfl, hb4⟩)
            | fail)
          go_ret
          exact ⟨rfl, hb123.trans (hb4.mono hb123.size)⟩
    · have hx0 := herr he
      subst hx0
      have hei : ¬ ((er : Nat) : Int) = 0 := by omega
      clear hmore herr hx
      go_enter Try.func9, Try.ntmps9
      go_wp2_with fail
      refine (H1.out).mono ?_
      rintro e w1 ⟨A1, N1, c1, rfl, ho1, hb1⟩
      obtain rfl : N1 = 0 := by have := ho1.len; simpa [bv] using this.symm
      go_wp2_with (go_at_call 11; refine (awake_any _).mono ?_; rintro e w2 ⟨rfl, hb2⟩)
      go_ret
      exact ⟨rfl, hb1.trans (hb2.mono hb1.size)⟩
end Go.Proofs.Ytnikecjkaciplaa.lzRoomDone
namespace Go.Proofs.Ytnikecjkaciplaa.lzRoomDone
open Go.ChangeShapes Go.WideShapes Go.ChangeAt Go.RowKit Mem lz Go.Shelf OM LM oct
set_option linter.unusedVariables false
theorem own : ownKnob Try.prog.godebug = none := by kernel_rfl
theorem laidOut : laidOutB Try.prog = true := by kernel_rfl
set_option maxRecDepth 100000 in
theorem lifted (os : Os) (started : os.Started) (H : Type) (enc : TypeId × Value → H) :
    ReturnsInHanded {} Try.checked os 9 .any (Rows.lzRoomSpec.pre6 enc Try.prog Try.f9 Rows.lzRoomRow.domain false) (Rows.lzRoomSpec.post enc Try.prog Try.f9 false true false false) := by
  refine returnsInHanded_of_change (C := Try.checked) own started (by kernel_rfl) Try.func9
    (ChangeSpec.witness6 (enc := enc) (C := Try.checked) false ⟨#[], #[.slice none 0 0, .int .i64 0], []⟩ 8 (by kernel_rfl) (by kernel_rfl) (by kernel_rfl) (by kernel_rfl)) ?_
  intro W base args ds gs before hval0 hW hcnd _
  have hval : ∀ (j : Nat) t v, Try.f9.params[j]? = some t → args[j]? = some v → Value.okWide Try.prog W .any base t v := hval0
  have hW' := hW
  obtain ⟨p, q, hA0, hV, rfl, hfz, hnd⟩ := hW
  have hA : DataW.TrodAll enc Try.prog W 0 (fun _ => true) true Try.f9.params.toList args.toList ds p := hA0
  rw [Try.params9] at hA hval
  obtain ⟨v0, vs0, d0, ds0, p0, q0, hargs, rfl, rfl, h0, r0⟩ := trodAll_cons hA
  obtain ⟨v1, vs1, d1, ds1, p1, q1, rfl, rfl, rfl, h1, r1⟩ := trodAll_cons r0
  obtain ⟨rfl, rfl, rfl⟩ := trodAll_nil r1
  obtain rfl : args = #[v0, v1] := by cases args; simp_all
  obtain ⟨rfl, rfl⟩ := trodVars_none hV
  obtain ⟨a0, n0, c0, rfl⟩ := okWide_slice Try.underlying22 (hval 0 22 v0 rfl rfl)
  have k0 := h0
  have lt0 : ∀ x ∈ p0, x.block < W.heap.size := by obtain ⟨m, hm⟩ := k0; exact DataW.trod_lt m _ _ _ hm
  obtain ⟨l0, w0, m0, b0⟩ : ∃ l : List UInt8, Rd W W.heap.size a0 n0 (bv l) ∧ n0 ≤ c0 ∧ n0 ≤ 9223372036854775807 := by
    obtain ⟨fuel, hf⟩ := h0
    rcases open_ints Try.underlying22 Try.underlying5 (by kernel_rfl) hf with ⟨hcs, _⟩ | ⟨x, l, c, zs, hcs, _, hl, hm, hz, _, hcell, hwz⟩
    · simp [Value.cells] at hcs
      obtain ⟨rfl, rfl, rfl⟩ := hcs
      exact ⟨[], Rd.nil _ _ _, Nat.le_refl _, by omega⟩
    · simp [Value.cells] at hcs
      obtain ⟨rfl, rfl, rfl⟩ := hcs
      unfold maxLen at hm
      obtain ⟨l, hl2⟩ := rd_bytes hl (by simpa using hz) hcell hwz
      exact ⟨l, hl2, hl, by omega⟩
  obtain ⟨a1, rfl, rfl, rfl, w1⟩ := open_int Try.underlying3 (hval 1 3 v1 rfl rfl) h1
  clear hA0 hval0
  refine (walk a0 n0 c0 l0 a1 W w0 m0 b0 w1).mono fun e W' ⟨he, bel⟩ => ?_
  subst he
  exact ⟨_, rfl, _, _, _, [], _, [], hW', trodAll_mk1 (shut_bool Try.underlying4 _), (trodAll_cons_mk (Below.trod laidOut (by kernel_rfl) (of_decide_eq_true (by kernel_rfl)) k0 bel lt0) (trodAll_cons_mk (shut_int Try.underlying3 w1) trodAll_mk0)), rfl, bel.frame _, fun h => by cases h⟩

theorem over : Rows.lzRoomRow.holds Try.pinned (OpenSpec.ofChange Rows.lzRoomSpec) :=
  OpenClaim.holds_of_wide 9 Try.f9 rfl rfl rfl rfl rfl rfl rfl ⟨rfl, rfl, rfl, rfl, rfl⟩ rfl rfl rfl rfl rfl (by kernel_rfl) Try.func9 (by kernel_rfl)
    (of_decide_eq_true (by kernel_rfl)) (by unfold Func.isWrapper; first | (rw [if_pos (by decide +kernel)]; kernel_rfl) | (rw [if_neg (by decide +kernel)]; exact ⟨rfl, rfl⟩))
    (fun os started H enc _ => lifted os started H enc)
/-- the given statement -/
theorem proved : Rows.LzRoomSaid := over
#print axioms proved
end Go.Proofs.Ytnikecjkaciplaa.lzRoomDone
