/- OctetTexts: for every input the law answers true and leaves its arguments as they were. -/
import Derived.Test.YtinjkhblpdphoaaRows
import Derived.Test.YtinjkhblpdphoaaOctD
import Derived.ProofKit
import Derived.OpenShut
import Derived.ShutString
import Derived.ChangeOld
namespace Go.Proofs.Ytinjkhblpdphoaa.octetTextsDone
open Go.RowKit Mem OM oct
set_option maxHeartbeats 1000000 in
theorem walk (A : Option Addr) (n c : Nat) (l : List UInt8) (A2 : Option Addr) (m d : Nat) (s : List UInt8) (y : Bool) (w : World) (h : Rd w w.heap.size A n (bv l)) (_hc : n ≤ c) (hn : n ≤ 9223372036854775807)
    (h2 : Rd w w.heap.size A2 m (bv s)) (_hd : m ≤ d) (hm : m ≤ 9223372036854775807) :
    Calls Try.prog 5 #[.slice A n c, .slice A2 m d, .bool y] w fun e w' => e = .returned (.bool true) ∧ Below w.heap.size w w' := by
  have Hn := Lib.hid h.len
  have Hm := Lib.hid h2.len
  by_cases hbig : 65536 < n
  · go_enter Try.func5, Try.ntmps5
    go_wp2_with fail
    refine (awake_any _).mono ?_
    rintro e w1 ⟨rfl, hb1⟩
    go_wp2
    go_ret
    exact ⟨rfl, hb1⟩
  by_cases hbig2 : 65536 < m
  · go_enter Try.func5, Try.ntmps5
    go_wp2_with fail
    refine (awake_any _).mono ?_
    rintro e w1 ⟨rfl, hb1⟩
    go_wp2
    go_ret
    exact ⟨rfl, hb1⟩
  go_enter Try.func5, Try.ntmps5
  go_wp2_with fail
  refine (clone_any A n c _ l _ h (Nat.le_refl _) (by omega)).mono ?_
  rintro e w1 ⟨A1, N1, c1, rfl, ho1, hb1⟩
  have hN1 : N1 = n := by have := ho1.len; have := Hn.out; omega
  subst hN1
  go_wp2_with fail
  refine (clone_any A2 m d _ s _ (h2.below hb1 (Nat.le_refl _)) hb1.size (by omega)).mono ?_
  rintro e w2 ⟨A3, N3, c3, rfl, ho3, hb2⟩
  have hN3 : N3 = m := by have := ho3.len; have := Hm.out; omega
  subst hN3
  have hz1 := hb1.size
  have hz2 := hb2.size
  go_wp2_with fail
  refine (text_any A1 A3 N1 c1 N3 c3 _ l s _ ((ho1.rd.below hb2 (Nat.le_refl _)).more hz2) ho3.rd (Nat.le_refl _) (by omega) (by omega)).mono ?_
  rintro e w3 ⟨A4, N4, c4, rfl, ho4, hb3⟩
  have hz3 := hb3.size
  have hb13 := hb2.trans (hb3.mono hz2)
  go_wp2_with fail
  refine (flag_any A1 N1 c1 _ y l _ (ho1.rd.below hb13 (Nat.le_refl _)) (by omega) (by omega)).mono ?_
  rintro e w4 ⟨A5, N5, c5, rfl, ho5, hb4⟩
  have hz4 := hb4.size
  have hb14 := hb13.trans (hb4.mono (by omega))
  have hb04 := hb1.trans (hb14.mono hz1)
  go_wp2_with fail
  refine (refText_any A A2 N1 c N3 d _ l s _ (h.below hb04 (Nat.le_refl _)) (h2.below hb04 (Nat.le_refl _)) (by omega) (by omega) (by omega)).mono ?_
  rintro e w5 ⟨A6, N6, c6, rfl, ho6, hb5⟩
  have hz5 := hb5.size
  have ho4' := (ho4.below hb4 (Nat.le_refl _)).below hb5 (Nat.le_refl _)
  have hb05 := hb04.trans (hb5.mono (by omega))
  go_wp2_with fail
  refine (equal_any A4 A6 N4 c4 N6 c6 _ _ _ _ ho4'.rd ho6.rd).mono ?_
  rintro e w6 ⟨rfl, rfl⟩
  rw [decide_eq_true rfl]
  go_wp2_with fail
  refine (refFlag_any A N1 c _ y l _ (h.below hb05 (Nat.le_refl _)) (by omega) (by omega)).mono ?_
  rintro e w7 ⟨A7, N7, c7, rfl, ho7, hb7⟩
  have hz7 := hb7.size
  have ho5' := (ho5.below hb5 (Nat.le_refl _)).below hb7 (Nat.le_refl _)
  have hb07 := hb05.trans (hb7.mono (by omega))
  have hb17 := hb14.trans ((hb5.trans (hb7.mono hz5)).mono (by omega))
  go_wp2_with fail
  refine (equal_any A5 A7 N5 c5 N7 c7 _ _ _ _ ho5'.rd ho7.rd).mono ?_
  rintro e w8 ⟨rfl, rfl⟩
  rw [decide_eq_true rfl]
  go_wp2_with fail
  refine (equal_any A1 A N1 c1 N1 c _ _ _ _ (ho1.rd.below hb17 (Nat.le_refl _)) ((h.below hb07 (Nat.le_refl _)).more hz1)).mono ?_
  rintro e w9 ⟨rfl, rfl⟩
  rw [decide_eq_true rfl]
  go_wp2_with fail
  have hb27 := hb3.trans ((hb4.trans ((hb5.trans (hb7.mono hz5)).mono hz4)).mono hz3)
  refine (equal_any A3 A2 N3 c3 N3 d _ _ _ _ (ho3.rd.below hb27 (Nat.le_refl _)) ((h2.below hb07 (Nat.le_refl _)).more (by omega))).mono ?_
  rintro e w10 ⟨rfl, rfl⟩
  rw [decide_eq_true rfl]
  go_wp2_with fail
  refine (awake_any _).mono ?_
  rintro e w11 ⟨rfl, hb11⟩
  go_wp2
  go_ret
  exact ⟨rfl, hb07.trans (hb11.mono hb07.size)⟩
end Go.Proofs.Ytinjkhblpdphoaa.octetTextsDone
namespace Go.Proofs.Ytinjkhblpdphoaa.octetTextsDone
open Go.ChangeShapes Go.WideShapes Go.ChangeAt Go.RowKit Mem
set_option linter.unusedVariables false
theorem own : ownKnob Try.prog.godebug = none := by kernel_rfl
theorem laidOut : laidOutB Try.prog = true := by kernel_rfl
set_option maxRecDepth 100000 in
theorem lifted (os : Os) (started : os.Started) (H : Type) (enc : TypeId × Value → H) :
    ReturnsInHanded {} Try.checked os 5 .any (Rows.octetTextsSpec.pre6 enc Try.prog Try.f5 Rows.octetTextsRow.domain false) (Rows.octetTextsSpec.post enc Try.prog Try.f5 false true false false) := by
  refine returnsInHanded_of_change (C := Try.checked) own started (by kernel_rfl) Try.func5
    (ChangeSpec.witness6 (enc := enc) (C := Try.checked) false ⟨#[], #[.slice none 0 0, .slice none 0 0, .bool false], []⟩ 8 (by kernel_rfl) (by kernel_rfl) (by kernel_rfl) (by kernel_rfl)) ?_
  intro W base args ds gs before hval0 hW hcnd _
  have hval : ∀ (j : Nat) t v, Try.f5.params[j]? = some t → args[j]? = some v → Value.okWide Try.prog W .any base t v := hval0
  have hW' := hW
  obtain ⟨p, q, hA0, hV, rfl, hfz, hnd⟩ := hW
  have hA : DataW.TrodAll enc Try.prog W 0 (fun _ => true) true Try.f5.params.toList args.toList ds p := hA0
  rw [Try.params5] at hA hval
  obtain ⟨v0, vs0, d0, ds0, p0, q0, hargs, rfl, rfl, h0, r0⟩ := trodAll_cons hA
  obtain ⟨v1, vs1, d1, ds1, p1, q1, rfl, rfl, rfl, h1, r1⟩ := trodAll_cons r0
  obtain ⟨v2, vs2, d2, ds2, p2, q2, rfl, rfl, rfl, h2, r2⟩ := trodAll_cons r1
  obtain ⟨rfl, rfl, rfl⟩ := trodAll_nil r2
  obtain rfl : args = #[v0, v1, v2] := by cases args; simp_all
  obtain ⟨rfl, rfl⟩ := trodVars_none hV
  obtain ⟨a0, n0, c0, rfl⟩ := okWide_slice Try.underlying22 (hval 0 22 v0 rfl rfl)
  have k0 := h0
  have lt0 : ∀ x ∈ p0, x.block < W.heap.size := by obtain ⟨m, hm⟩ := k0; exact DataW.trod_lt m _ _ _ hm
  obtain ⟨l0, w0, m0, b0⟩ : ∃ l : List UInt8, Rd W W.heap.size a0 n0 (bv l) ∧ n0 ≤ c0 ∧ n0 ≤ 9223372036854775807 := by
    obtain ⟨fuel, hf⟩ := h0
    rcases open_ints Try.underlying22 Try.underlying5 (by kernel_rfl) hf with ⟨hcs, _⟩ | ⟨x, l, c, zs, hcs, _, hl, hm, hz, _, hcell, hwz⟩
    · simp [Value.cells] at hcs
      obtain ⟨rfl, rfl, rfl⟩ := hcs
      exact ⟨[], Rd.nil _ _ _, Nat.le_refl _, by omega⟩
    · simp [Value.cells] at hcs
      obtain ⟨rfl, rfl, rfl⟩ := hcs
      unfold maxLen at hm
      obtain ⟨l, hl2⟩ := rd_bytes hl (by simpa using hz) hcell hwz
      exact ⟨l, hl2, hl, by omega⟩
  obtain ⟨a1, n1, c1, rfl⟩ := okWide_slice Try.underlying22 (hval 1 22 v1 rfl rfl)
  have k1 := h1
  have lt1 : ∀ x ∈ p1, x.block < W.heap.size := by obtain ⟨m, hm⟩ := k1; exact DataW.trod_lt m _ _ _ hm
  obtain ⟨l1, w1, m1, b1⟩ : ∃ l : List UInt8, Rd W W.heap.size a1 n1 (bv l) ∧ n1 ≤ c1 ∧ n1 ≤ 9223372036854775807 := by
    obtain ⟨fuel, hf⟩ := h1
    rcases open_ints Try.underlying22 Try.underlying5 (by kernel_rfl) hf with ⟨hcs, _⟩ | ⟨x, l, c, zs, hcs, _, hl, hm, hz, _, hcell, hwz⟩
    · simp [Value.cells] at hcs
      obtain ⟨rfl, rfl, rfl⟩ := hcs
      exact ⟨[], Rd.nil _ _ _, Nat.le_refl _, by omega⟩
    · simp [Value.cells] at hcs
      obtain ⟨rfl, rfl, rfl⟩ := hcs
      unfold maxLen at hm
      obtain ⟨l, hl2⟩ := rd_bytes hl (by simpa using hz) hcell hwz
      exact ⟨l, hl2, hl, by omega⟩
  obtain ⟨a2, rfl, rfl, rfl⟩ := open_bool Try.underlying4 (hval 2 4 v2 rfl rfl) h2
  clear hA0 hval0
  refine (walk a0 n0 c0 l0 a1 n1 c1 l1 a2 W w0 m0 b0 w1 m1 b1).mono fun e W' ⟨he, bel⟩ => ?_
  subst he
  exact ⟨_, rfl, _, _, _, [], _, [], hW', trodAll_mk1 (shut_bool Try.underlying4 _), (trodAll_cons_mk (Below.trod laidOut (by kernel_rfl) (of_decide_eq_true (by kernel_rfl)) k0 bel lt0) (trodAll_cons_mk (Below.trod laidOut (by kernel_rfl) (of_decide_eq_true (by kernel_rfl)) k1 bel lt1) (trodAll_cons_mk (shut_bool Try.underlying4 _) trodAll_mk0))), rfl, bel.frame _, fun h => by cases h⟩

theorem over : Rows.octetTextsRow.holds Try.pinned (OpenSpec.ofChange Rows.octetTextsSpec) :=
  OpenClaim.holds_of_wide 5 Try.f5 rfl rfl rfl rfl rfl rfl rfl ⟨rfl, rfl, rfl, rfl, rfl⟩ rfl rfl rfl rfl rfl (by kernel_rfl) Try.func5 (by kernel_rfl)
    (of_decide_eq_true (by kernel_rfl)) (by unfold Func.isWrapper; first | (rw [if_pos (by decide +kernel)]; kernel_rfl) | (rw [if_neg (by decide +kernel)]; exact ⟨rfl, rfl⟩))
    (fun os started H enc _ => lifted os started H enc)
/-- the given statement -/
theorem proved : Rows.OctetTextsSaid := over
#print axioms proved
end Go.Proofs.Ytinjkhblpdphoaa.octetTextsDone
