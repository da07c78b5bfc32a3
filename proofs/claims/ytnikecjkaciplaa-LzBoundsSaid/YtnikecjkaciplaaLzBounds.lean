/- LzBounds: for every input the law answers true and leaves its arguments as they were. -/
import Derived.Test.YtnikecjkaciplaaRows
import Derived.Test.YtnikecjkaciplaaLzL
import Derived.Test.YtnikecjkaciplaaLzMath4
import Derived.ProofKit
import Derived.OpenShut
import Derived.ShutString
import Derived.ChangeOld
namespace Go.Proofs.Ytnikecjkaciplaa.lzBoundsDone
open Go.RowKit Mem lz Go.Shelf OM LM oct
set_option linter.unusedVariables false
set_option maxRecDepth 50000 in
set_option maxHeartbeats 4000000 in
theorem walk (A : Option Addr) (n c : Nat) (l : List UInt8) (D : Option Addr) (m d : Nat) (r : List UInt8) (room : Int) (w : World) (hr : Rd w w.heap.size A n (bv l)) (hc : n ≤ c) (hn : n ≤ 9223372036854775807) (hs : Rd w w.heap.size D m (bv r)) (hd : m ≤ d) (hm : m ≤ 9223372036854775807) (hw : (Lit.int .i64 room).wf = true) :
    Calls Try.prog 6 #[.slice A n c, .slice D m d, .int .i64 room] w fun e w' => e = .returned (.bool true) ∧ Below w.heap.size w w' := by
  have hw2 := int_wf hw
  have hl : l.length = n := by rw [← hr.len, bv_len]
  have hl2 : r.length = m := by rw [← hs.len, bv_len]
  have HR := Lib.hid hr
  have HS := Lib.hid hs
  clear hr hs hw
  by_cases hbig : (16384 : Int) < (n : Int)
  · go_enter Try.func6, Try.ntmps6
    go_wp2_with (go_at_call 11; refine (awake_any _).mono ?_; rintro e w1 ⟨rfl, hb1⟩)
    go_ret
    exact ⟨rfl, hb1⟩
  · by_cases hbig2 : (2048 : Int) < (m : Int)
    · go_enter Try.func6, Try.ntmps6
      go_wp2_with (go_at_call 11; refine (awake_any _).mono ?_; rintro e w1 ⟨rfl, hb1⟩)
      go_ret
      exact ⟨rfl, hb1⟩
    · have h1 := restore_any D m d w.heap.size r room w HS.out (Nat.le_refl _) (by omega) hw2
      unfold RePost at h1
      rw [reB_re] at h1
      obtain ⟨x, er, hx⟩ : ∃ x er, re room r [] = (x, er) := ⟨_, _, rfl⟩
      rw [hx] at h1
      simp only at h1
      have hx0 : er ≠ 0 → x = [] := fun h => by
        have := re_err room r.length r [] (Nat.le_refl _) (by rw [hx]; exact h)
        rw [hx] at this
        exact this
      have hxr : er = 0 → (x.length : Int) ≤ max room 0 := fun h => by
        subst h
        rcases (re_grow room r.length r [] x (Nat.le_refl _) hx).2 with ⟨h3, _⟩ | ⟨_, h3⟩
        · rw [← h3]; simp; omega
        · omega
      have hsh := fun y (hy : Below w.heap.size w y) => shorten_any A n c w.heap.size l y (HR.out.below hy (Nat.le_refl _)) hy.size hc (by omega)
      have hln := shB_len l
      rw [hl] at hln
      obtain ⟨k, hk⟩ : ∃ k, (shB l).length = k := ⟨_, rfl⟩
      obtain ⟨q, hq⟩ : ∃ q, n / 3 = q := ⟨_, rfl⟩
      have hq2 : (n : Int).tdiv 3 = (q : Int) := by rw [Int.tdiv_eq_ediv_of_nonneg (by omega)]; omega
      have hkl : (k : Int) ≤ (n : Int) + (q : Int) + 1 := by omega
      have hqn : q ≤ n := by omega
      obtain ⟨mx, hmx⟩ : ∃ mx, max room 0 = mx := ⟨_, rfl⟩
      rw [hmx] at hxr
      have H1 := Lib.hid h1
      have HX := Lib.hid (And.intro hx0 hxr)
      have HSH := Lib.hid hsh
      have HK := Lib.hid hk
      clear h1 hx hx0 hxr hsh hk hln hq hl hl2
      go_enter Try.func6, Try.ntmps6
      go_wp2_with fail
      refine (H1.out).mono ?_
      rintro e w1 ⟨A1, N1, c1, rfl, ho1, hb1⟩
      have hN1 : N1 = x.length := by have := ho1.len; rw [bv_len] at this; exact this.symm
      have hb1w := hb1
      have hmax0 : (0 : Int) ≤ mx := by omega
      by_cases he : er = 0
      · have h6 := HX.out.2 he
        have h7 : (N1 : Int) ≤ mx := by rw [hN1]; exact h6
        subst he
        clear hN1 ho1 h6 hmax0
        go_wp2_with (first
          | (go_at_call 13; refine (HSH.out _ hb1w).mono ?_; rintro e w2 ⟨A2, N2, c2, rfl, ho2, hb2⟩; obtain rfl : N2 = k := (by have := ho2.len; rw [bv_len, HK.out] at this; exact this.symm); have hb2w := hb1w.trans (hb2.mono hb1w.size); clear ho2)
          | (go_at_call 11; refine (awake_any _).mono ?_; rintro e w6 ⟨rfl, hb6⟩)
          | fail)
        go_ret
        exact ⟨rfl, hb2w.trans (hb6.mono hb2w.size)⟩
      · have h6 := HX.out.1 he
        have h2i : ¬ ((er : Nat) : Int) = 0 := by omega
        obtain rfl : N1 = 0 := by rw [hN1, h6]; rfl
        have h7 : ((0 : Nat) : Int) ≤ mx := by omega
        clear hN1 ho1 h6
        go_wp2_with (first
          | (go_at_call 13; refine (HSH.out _ hb1w).mono ?_; rintro e w2 ⟨A2, N2, c2, rfl, ho2, hb2⟩; obtain rfl : N2 = k := (by have := ho2.len; rw [bv_len, HK.out] at this; exact this.symm); have hb2w := hb1w.trans (hb2.mono hb1w.size); clear ho2)
          | (go_at_call 11; refine (awake_any _).mono ?_; rintro e w6 ⟨rfl, hb6⟩)
          | fail)
        go_ret
        exact ⟨rfl, hb2w.trans (hb6.mono hb2w.size)⟩
end Go.Proofs.Ytnikecjkaciplaa.lzBoundsDone
namespace Go.Proofs.Ytnikecjkaciplaa.lzBoundsDone
open Go.ChangeShapes Go.WideShapes Go.ChangeAt Go.RowKit Mem lz Go.Shelf OM LM oct
set_option linter.unusedVariables false
theorem own : ownKnob Try.prog.godebug = none := by kernel_rfl
theorem laidOut : laidOutB Try.prog = true := by kernel_rfl
set_option maxRecDepth 100000 in
theorem lifted (os : Os) (started : os.Started) (H : Type) (enc : TypeId × Value → H) :
    ReturnsInHanded {} Try.checked os 6 .any (Rows.lzBoundsSpec.pre6 enc Try.prog Try.f6 Rows.lzBoundsRow.domain false) (Rows.lzBoundsSpec.post enc Try.prog Try.f6 false true false false) := by
  refine returnsInHanded_of_change (C := Try.checked) own started (by kernel_rfl) Try.func6
    (ChangeSpec.witness6 (enc := enc) (C := Try.checked) false ⟨#[], #[.slice none 0 0, .slice none 0 0, .int .i64 0], []⟩ 8 (by kernel_rfl) (by kernel_rfl) (by kernel_rfl) (by kernel_rfl)) ?_
  intro W base args ds gs before hval0 hW hcnd _
  have hval : ∀ (j : Nat) t v, Try.f6.params[j]? = some t → args[j]? = some v → Value.okWide Try.prog W .any base t v := hval0
  have hW' := hW
  obtain ⟨p, q, hA0, hV, rfl, hfz, hnd⟩ := hW
  have hA : DataW.TrodAll enc Try.prog W 0 (fun _ => true) true Try.f6.params.toList args.toList ds p := hA0
  rw [Try.params6] at hA hval
  obtain ⟨v0, vs0, d0, ds0, p0, q0, hargs, rfl, rfl, h0, r0⟩ := trodAll_cons hA
  obtain ⟨v1, vs1, d1, ds1, p1, q1, rfl, rfl, rfl, h1, r1⟩ := trodAll_cons r0
  obtain ⟨v2, vs2, d2, ds2, p2, q2, rfl, rfl, rfl, h2, r2⟩ := trodAll_cons r1
  obtain ⟨rfl, rfl, rfl⟩ := trodAll_nil r2
  obtain rfl : args = #[v0, v1, v2] := by cases args; simp_all
  obtain ⟨rfl, rfl⟩ := trodVars_none hV
  obtain ⟨a0, n0, c0, rfl⟩ := okWide_slice Try.underlying22 (hval 0 22 v0 rfl rfl)
  have k0 := h0
  have lt0 : ∀ x ∈ p0, x.block < W.heap.size := by obtain ⟨m, hm⟩ := k0; exact DataW.trod_lt m _ _ _ hm
  obtain ⟨l0, w0, m0, b0⟩ : ∃ l : List UInt8, Rd W W.heap.size a0 n0 (bv l) ∧ n0 ≤ c0 ∧ n0 ≤ 9223372036854775807 := by
    obtain ⟨fuel, hf⟩ := h0
    rcases open_ints Try.underlying22 Try.underlying5 (by kernel_rfl) hf with ⟨hcs, _⟩ | ⟨x, l, c, zs, hcs, _, hl, hm, hz, _, hcell, hwz⟩
    · simp [Value.cells] at hcs
      obtain ⟨rfl, rfl, rfl⟩ := hcs
      exact ⟨[], Rd.nil _ _ _, Nat.le_refl _, by omega⟩
    · simp [Value.cells] at hcs
      obtain ⟨rfl, rfl, rfl⟩ := hcs
      unfold maxLen at hm
      obtain ⟨l, hl2⟩ := rd_bytes hl (by simpa using hz) hcell hwz
      exact ⟨l, hl2, hl, by omega⟩
  obtain ⟨a1, n1, c1, rfl⟩ := okWide_slice Try.underlying22 (hval 1 22 v1 rfl rfl)
  have k1 := h1
  have lt1 : ∀ x ∈ p1, x.block < W.heap.size := by obtain ⟨m, hm⟩ := k1; exact DataW.trod_lt m _ _ _ hm
  obtain ⟨l1, w1, m1, b1⟩ : ∃ l : List UInt8, Rd W W.heap.size a1 n1 (bv l) ∧ n1 ≤ c1 ∧ n1 ≤ 9223372036854775807 := by
    obtain ⟨fuel, hf⟩ := h1
    rcases open_ints Try.underlying22 Try.underlying5 (by kernel_rfl) hf with ⟨hcs, _⟩ | ⟨x, l, c, zs, hcs, _, hl, hm, hz, _, hcell, hwz⟩
    · simp [Value.cells] at hcs
      obtain ⟨rfl, rfl, rfl⟩ := hcs
      exact ⟨[], Rd.nil _ _ _, Nat.le_refl _, by omega⟩
    · simp [Value.cells] at hcs
      obtain ⟨rfl, rfl, rfl⟩ := hcs
      unfold maxLen at hm
      obtain ⟨l, hl2⟩ := rd_bytes hl (by simpa using hz) hcell hwz
      exact ⟨l, hl2, hl, by omega⟩
  obtain ⟨a2, rfl, rfl, rfl, w2⟩ := open_int Try.underlying3 (hval 2 3 v2 rfl rfl) h2
  clear hA0 hval0
  refine (walk a0 n0 c0 l0 a1 n1 c1 l1 a2 W w0 m0 b0 w1 m1 b1 w2).mono fun e W' ⟨he, bel⟩ => ?_
  subst he
  exact ⟨_, rfl, _, _, _, [], _, [], hW', trodAll_mk1 (shut_bool Try.underlying4 _), (trodAll_cons_mk (Below.trod laidOut (by kernel_rfl) (of_decide_eq_true (by kernel_rfl)) k0 bel lt0) (trodAll_cons_mk (Below.trod laidOut (by kernel_rfl) (of_decide_eq_true (by kernel_rfl)) k1 bel lt1) (trodAll_cons_mk (shut_int Try.underlying3 w2) trodAll_mk0))), rfl, bel.frame _, fun h => by cases h⟩

theorem over : Rows.lzBoundsRow.holds Try.pinned (OpenSpec.ofChange Rows.lzBoundsSpec) :=
  OpenClaim.holds_of_wide 6 Try.f6 rfl rfl rfl rfl rfl rfl rfl ⟨rfl, rfl, rfl, rfl, rfl⟩ rfl rfl rfl rfl rfl (by kernel_rfl) Try.func6 (by kernel_rfl)
    (of_decide_eq_true (by kernel_rfl)) (by unfold Func.isWrapper; first | (rw [if_pos (by decide +kernel)]; kernel_rfl) | (rw [if_neg (by decide +kernel)]; exact ⟨rfl, rfl⟩))
    (fun os started H enc _ => lifted os started H enc)
/-- the given statement -/
theorem proved : Rows.LzBoundsSaid := over
#print axioms proved
end Go.Proofs.Ytnikecjkaciplaa.lzBoundsDone
