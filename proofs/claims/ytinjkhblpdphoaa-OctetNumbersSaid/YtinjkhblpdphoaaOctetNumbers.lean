/- OctetNumbers: for every input the law answers true and leaves its arguments as they were. -/
import Derived.Test.YtinjkhblpdphoaaRows
import Derived.Test.YtinjkhblpdphoaaOctAwake
import Derived.ProofKit
import Derived.OpenShut
import Derived.ShutString
import Derived.ChangeOld
namespace Go.Proofs.Ytinjkhblpdphoaa.octetNumbersDone
open Go.RowKit Mem OM oct
theorem walk (A : Option Addr) (n c : Nat) (l : List UInt8) (x : Int) (w : World) (h : Rd w w.heap.size A n (bv l)) (_hc : n ≤ c) (hn : n ≤ 9223372036854775807) (hx : (Lit.int .i64 x).wf = true) :
    Calls Try.prog 3 #[.slice A n c, .int .i64 x] w fun e w' => e = .returned (.bool true) ∧ Below w.heap.size w w' := by
  obtain ⟨x0, x1⟩ := int_wf hx
  clear hx
  have X0 := Lib.hid x0
  have X1 := Lib.hid x1
  clear x0 x1
  by_cases hbig : 65536 < n
  · go_enter Try.func3, Try.ntmps3
    go_wp2_with fail
    refine (awake_any _).mono ?_
    rintro e w1 ⟨rfl, hb1⟩
    go_wp2
    go_ret
    exact ⟨rfl, hb1⟩
  · go_enter Try.func3, Try.ntmps3
    go_wp2_with fail
    refine (clone_any A n c _ l _ h (Nat.le_refl _) (by omega)).mono ?_
    rintro e w1 ⟨A1, N1, c1, rfl, ho1, hb1⟩
    have hN1 : N1 ≤ n := by have := ho1.len; have := h.len; rw [bv_len] at *; omega
    go_wp2_with fail
    refine (number_any A1 N1 c1 _ x l _ ho1.rd (Nat.le_refl _) (by omega) X0.out X1.out).mono ?_
    rintro e w2 ⟨A2, N2, c2, rfl, ho2, hb2⟩
    have hr := h.below (hb1.trans (hb2.mono hb1.size)) (Nat.le_refl _)
    go_wp2_with fail
    refine (refNumber_any A n c _ x l _ hr (Nat.le_trans hb1.size hb2.size) (by omega) X0.out X1.out).mono ?_
    rintro e w3 ⟨A3, N3, c3, rfl, ho3, hb3⟩
    have ho2' := ho2.below hb3 (Nat.le_refl _)
    go_wp2_with fail
    refine (equal_any A2 A3 N2 c2 N3 c3 _ _ _ _ ho2'.rd ho3.rd).mono ?_
    rintro e w4 ⟨rfl, rfl⟩
    rw [decide_eq_true rfl]
    have hN2 : N2 ≤ n + 9 := by
      have e1 := ho2.len
      have e2 := h.len
      rw [bv_len] at e1 e2
      have := numB_le x.toNat
      simp only [List.length_append] at e1
      omega
    go_wp2_with (at_builtin; refine wp_app u8ty rfl (.tmp 22) (.tmp 23) rfl rfl rfl (ho2'.alloc _) (Rd.one _ _ _) (one1 rfl) (by omega) (by omega) (by simp; have := hb2.size; have := hb3.size; omega) ?_; intro A4 N4 c4 w5 ho4 hN4 hb4 hg4; rw [show [Value.int .u8 1] = bv [1] from rfl, ← bv_app] at ho4; obtain ⟨g, rfl, hgB, hgl, ⟨b0, hcell⟩, hfz, hpos, hset⟩ := ho4.head (by simp; omega))
    have hb23 : Below w1.heap.size w1 w5 := (hb2.trans (hb3.mono hb2.size)).trans ((((Below.refl _ _).alloc (Nat.le_refl _) _).mono (Nat.le_trans hb2.size hb3.size)).trans hb4)
    clear hb4 hg4
    have hb6 := hb23.trans (((hset (.int .u8 (bits BinOp.xor IntKind.u8 (b0.toNat : Int) 255))).mono (Nat.le_refl _)))
    have g1 := ho1.rd.below hb6 (Nat.le_refl _)
    have g2 := h.below (hb1.trans (hb6.mono hb1.size)) (Nat.le_refl _)
    refine (equal_any A1 A N1 c1 n c _ _ _ _ g1 (g2.more hb1.size)).mono ?_
    rintro e w7 ⟨rfl, rfl⟩
    rw [decide_eq_true rfl]
    go_wp2_with fail
    refine (awake_any _).mono ?_
    rintro e w8 ⟨rfl, hb8⟩
    go_wp2
    go_ret
    exact ⟨rfl, (hb1.trans (hb6.mono hb1.size)).trans (hb8.mono (Nat.le_trans hb1.size hb6.size))⟩
end Go.Proofs.Ytinjkhblpdphoaa.octetNumbersDone
namespace Go.Proofs.Ytinjkhblpdphoaa.octetNumbersDone
open Go.ChangeShapes Go.WideShapes Go.ChangeAt Go.RowKit Mem
set_option linter.unusedVariables false
theorem own : ownKnob Try.prog.godebug = none := by kernel_rfl
theorem laidOut : laidOutB Try.prog = true := by kernel_rfl
set_option maxRecDepth 100000 in
theorem lifted (os : Os) (started : os.Started) (H : Type) (enc : TypeId × Value → H) :
    ReturnsInHanded {} Try.checked os 3 .any (Rows.octetNumbersSpec.pre6 enc Try.prog Try.f3 Rows.octetNumbersRow.domain false) (Rows.octetNumbersSpec.post enc Try.prog Try.f3 false true false false) := by
  refine returnsInHanded_of_change (C := Try.checked) own started (by kernel_rfl) Try.func3
    (ChangeSpec.witness6 (enc := enc) (C := Try.checked) false ⟨#[], #[.slice none 0 0, .int .i64 0], []⟩ 8 (by kernel_rfl) (by kernel_rfl) (by kernel_rfl) (by kernel_rfl)) ?_
  intro W base args ds gs before hval0 hW hcnd _
  have hval : ∀ (j : Nat) t v, Try.f3.params[j]? = some t → args[j]? = some v → Value.okWide Try.prog W .any base t v := hval0
  have hW' := hW
  obtain ⟨p, q, hA0, hV, rfl, hfz, hnd⟩ := hW
  have hA : DataW.TrodAll enc Try.prog W 0 (fun _ => true) true Try.f3.params.toList args.toList ds p := hA0
  rw [Try.params3] at hA hval
  obtain ⟨v0, vs0, d0, ds0, p0, q0, hargs, rfl, rfl, h0, r0⟩ := trodAll_cons hA
  obtain ⟨v1, vs1, d1, ds1, p1, q1, rfl, rfl, rfl, h1, r1⟩ := trodAll_cons r0
  obtain ⟨rfl, rfl, rfl⟩ := trodAll_nil r1
  obtain rfl : args = #[v0, v1] := by cases args; simp_all
  obtain ⟨rfl, rfl⟩ := trodVars_none hV
  obtain ⟨a0, n0, c0, rfl⟩ := okWide_slice Try.underlying22 (hval 0 22 v0 rfl rfl)
  have k0 := h0
  have lt0 : ∀ x ∈ p0, x.block < W.heap.size := by obtain ⟨m, hm⟩ := k0; exact DataW.trod_lt m _ _ _ hm
  obtain ⟨l0, w0, m0, b0⟩ : ∃ l : List UInt8, Rd W W.heap.size a0 n0 (bv l) ∧ n0 ≤ c0 ∧ n0 ≤ 9223372036854775807 := by
    obtain ⟨fuel, hf⟩ := h0
    rcases open_ints Try.underlying22 Try.underlying5 (by kernel_rfl) hf with ⟨hcs, _⟩ | ⟨x, l, c, zs, hcs, _, hl, hm, hz, _, hcell, hwz⟩
    · simp [Value.cells] at hcs
      obtain ⟨rfl, rfl, rfl⟩ := hcs
      exact ⟨[], Rd.nil _ _ _, Nat.le_refl _, by omega⟩
    · simp [Value.cells] at hcs
      obtain ⟨rfl, rfl, rfl⟩ := hcs
      unfold maxLen at hm
      obtain ⟨l, hl2⟩ := rd_bytes hl (by simpa using hz) hcell hwz
      exact ⟨l, hl2, hl, by omega⟩
  obtain ⟨a1, rfl, rfl, rfl, w1⟩ := open_int Try.underlying3 (hval 1 3 v1 rfl rfl) h1
  clear hA0 hval0
  refine (walk a0 n0 c0 l0 a1 W w0 m0 b0 w1).mono fun e W' ⟨he, bel⟩ => ?_
  subst he
  exact ⟨_, rfl, _, _, _, [], _, [], hW', trodAll_mk1 (shut_bool Try.underlying4 _), (trodAll_cons_mk (Below.trod laidOut (by kernel_rfl) (of_decide_eq_true (by kernel_rfl)) k0 bel lt0) (trodAll_cons_mk (shut_int Try.underlying3 w1) trodAll_mk0)), rfl, bel.frame _, fun h => by cases h⟩

theorem over : Rows.octetNumbersRow.holds Try.pinned (OpenSpec.ofChange Rows.octetNumbersSpec) :=
  OpenClaim.holds_of_wide 3 Try.f3 rfl rfl rfl rfl rfl rfl rfl ⟨rfl, rfl, rfl, rfl, rfl⟩ rfl rfl rfl rfl rfl (by kernel_rfl) Try.func3 (by kernel_rfl)
    (of_decide_eq_true (by kernel_rfl)) (by unfold Func.isWrapper; first | (rw [if_pos (by decide +kernel)]; kernel_rfl) | (rw [if_neg (by decide +kernel)]; exact ⟨rfl, rfl⟩))
    (fun os started H enc _ => lifted os started H enc)
/-- the given statement -/
theorem proved : Rows.OctetNumbersSaid := over
#print axioms proved
end Go.Proofs.Ytinjkhblpdphoaa.octetNumbersDone
