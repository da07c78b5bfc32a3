/- OctetLists: for every input the law answers true and leaves its arguments as they were. -/
import Derived.Test.YtinjkhblpdphoaaRows
import Derived.Test.YtinjkhblpdphoaaOctD
import Derived.ProofKit
import Derived.OpenShut
import Derived.ShutString
import Derived.ChangeOld
namespace Go.Proofs.Ytinjkhblpdphoaa.octetListsDone
open Go.RowKit Mem OM oct
set_option maxHeartbeats 1000000 in
theorem walk (A : Option Addr) (n c : Nat) (l : List UInt8) (A2 : Option Addr) (m d : Nat) (q : List Int) (w : World) (h : Rd w w.heap.size A n (bv l)) (_hc : n ≤ c) (hn : n ≤ 9223372036854775807)
    (h2 : Rd w w.heap.size A2 m (iv q)) (_hd : m ≤ d) (hm : m ≤ 9223372036854775807) (hq : ∀ x ∈ q, -9223372036854775808 ≤ x ∧ x ≤ 9223372036854775807) :
    Calls Try.prog 4 #[.slice A n c, .slice A2 m d] w fun e w' => e = .returned (.bool true) ∧ Below w.heap.size w w' := by
  have Hn := Lib.hid h.len
  have Hm := Lib.hid h2.len
  have Hq := Lib.hid hq
  clear hq
  by_cases hbig : 65536 < n
  · go_enter Try.func4, Try.ntmps4
    go_wp2_with fail
    refine (awake_any _).mono ?_
    rintro e w1 ⟨rfl, hb1⟩
    go_wp2
    go_ret
    exact ⟨rfl, hb1⟩
  by_cases hbig2 : 1000 < m
  · go_enter Try.func4, Try.ntmps4
    go_wp2_with fail
    refine (awake_any _).mono ?_
    rintro e w1 ⟨rfl, hb1⟩
    go_wp2
    go_ret
    exact ⟨rfl, hb1⟩
  go_enter Try.func4, Try.ntmps4
  go_wp2_with fail
  refine (clone_any A n c _ l _ h (Nat.le_refl _) (by omega)).mono ?_
  rintro e w1 ⟨A1, N1, c1, rfl, ho1, hb1⟩
  have hN1 : N1 ≤ n := by have := ho1.len; have := Hn.out; omega
  go_wp2_with fail
  go_loopw [5, 22] (fun v i wr => ∃ A3 N3 c3, ∃ k : Nat, v = .slice A3 N3 c3 ∧ i = .int .i64 k ∧ k ≤ m ∧ N3 ≤ n + 9 * k ∧ Ow wr w.heap.size 5 A3 N3 c3 (bv (l ++ numsB (q.take k))) ∧ Below w.heap.size w wr)
    (fun _ i _ => m - (intOf i).toNat)
  case atStart => exact ⟨A1, N1, c1, 0, rfl, rfl, by omega, by omega, by simpa [numsB] using ho1, hb1⟩
  case round =>
    obtain ⟨A3, N3, c3, k, rfl, rfl, hk, hN3, ho, hb⟩ := hrel
    by_cases hlt : k < m
    · have hkl : k < q.length := by have := Hm.out; rw [iv_len] at this; omega
      have hc := (h2.below hb (Nat.le_refl _))
      obtain ⟨b, off, rfl, hbB, hcell⟩ := hc.at_ hlt
      rw [iv_at q k hkl] at hcell
      have hr := Hq.out q[k] (List.getElem_mem hkl)
      obtain ⟨x, hx⟩ : ∃ x, x = q[k] := ⟨_, rfl⟩
      rw [← hx] at hcell hr
      have Hx := Lib.hid hx
      clear hx
      obtain ⟨hr1, hr2⟩ := hr
      go_wp2_with fail
      refine (refNumber_any _ _ _ _ x _ _ ho.rd (Nat.le_refl _) (by omega) hr1 hr2).mono ?_
      rintro e w4 ⟨A4, N4, c4, rfl, ho4, hb4⟩
      have hb5 := hb.trans (hb4.mono hb.size)
      rw [List.append_assoc, Hx.out, ← numsB_snoc, ← take_snoc q k hkl] at ho4
      have ho5 := ho4.base hb.size
      have hN4 : N4 ≤ N3 + 9 := by
        have h1 := ho4.len
        have h2 := ho.len
        rw [take_snoc q k hkl, numsB_snoc, bv_len] at h1
        rw [bv_len] at h2
        have := numB_le (q[k].toNat)
        simp only [List.length_append] at h1 h2
        omega
      clear ho4 hb4
      go_wp2_with fail
      go_roundw
      case rel => exact ⟨A4, N4, c4, k + 1, rfl, by go_num, by omega, by omega, ho5, hb5⟩
      case measure => simp [intOf]; omega
    · have hkm : k = m := by omega
      have e := Hm.out
      rw [iv_len] at e
      rw [List.take_of_length_le (by omega)] at ho
      clear e
      have hsz := hb.size
      have g2 := h2.below hb (Nat.le_refl _)
      have g1 := h.below hb (Nat.le_refl _)
      have KM := Lib.hid hkm
      clear hkm
      go_wp2_with fail
      refine (cloneInts_any _ _ _ _ q _ g2 hsz (by omega)).mono ?_
      rintro e w5 ⟨A5, N5, c5, rfl, ho5, hb5⟩
      have hN5 : N5 ≤ m := by have := ho5.len; have := Hm.out; omega
      have hb5' := hb.trans (hb5.mono hsz)
      go_wp2_with fail
      refine (numbers_any A A5 n c N5 c5 _ l q _ ((h.below hb5' (Nat.le_refl _)).more hb5'.size) ho5.rd (Nat.le_refl _) (by omega) (by omega) Hq.out).mono ?_
      rintro e w6 ⟨A6, N6, c6, rfl, ho6, hb6⟩
      go_wp2_with fail
      refine (equal_any A6 A3 N6 c6 N3 c3 _ _ _ _ ho6.rd (((ho.rd).below hb5 (Nat.le_refl _)).below hb6 hb5.size |>.more (Nat.le_trans hb5.size hb6.size))).mono ?_
      rintro e w7 ⟨rfl, rfl⟩
      rw [decide_eq_true rfl]
      have hb6' := hb5'.trans (hb6.mono hb5'.size)
      go_wp2_with fail
      refine (equalInts_any A5 A2 N5 c5 m d _ q _ (ho5.rd.below hb6 (Nat.le_refl _)) ((h2.below hb6' (Nat.le_refl _)).more hb5'.size) (by omega)).mono ?_
      rintro e w8 ⟨rfl, z, rfl⟩
      go_wp2_with fail
      refine (awake_any _).mono ?_
      rintro e w9 ⟨rfl, hb9⟩
      go_wp2
      go_ret
      exact ⟨rfl, (below_drewN hb6' z).trans (hb9.mono hb6'.size)⟩
end Go.Proofs.Ytinjkhblpdphoaa.octetListsDone
namespace Go.Proofs.Ytinjkhblpdphoaa.octetListsDone
open Go.ChangeShapes Go.WideShapes Go.ChangeAt Go.RowKit Mem
set_option linter.unusedVariables false
theorem own : ownKnob Try.prog.godebug = none := by kernel_rfl
theorem laidOut : laidOutB Try.prog = true := by kernel_rfl
set_option maxRecDepth 100000 in
theorem lifted (os : Os) (started : os.Started) (H : Type) (enc : TypeId × Value → H) :
    ReturnsInHanded {} Try.checked os 4 .any (Rows.octetListsSpec.pre6 enc Try.prog Try.f4 Rows.octetListsRow.domain false) (Rows.octetListsSpec.post enc Try.prog Try.f4 false true false false) := by
  refine returnsInHanded_of_change (C := Try.checked) own started (by kernel_rfl) Try.func4
    (ChangeSpec.witness6 (enc := enc) (C := Try.checked) false ⟨#[], #[.slice none 0 0, .slice none 0 0], []⟩ 8 (by kernel_rfl) (by kernel_rfl) (by kernel_rfl) (by kernel_rfl)) ?_
  intro W base args ds gs before hval0 hW hcnd _
  have hval : ∀ (j : Nat) t v, Try.f4.params[j]? = some t → args[j]? = some v → Value.okWide Try.prog W .any base t v := hval0
  have hW' := hW
  obtain ⟨p, q, hA0, hV, rfl, hfz, hnd⟩ := hW
  have hA : DataW.TrodAll enc Try.prog W 0 (fun _ => true) true Try.f4.params.toList args.toList ds p := hA0
  rw [Try.params4] at hA hval
  obtain ⟨v0, vs0, d0, ds0, p0, q0, hargs, rfl, rfl, h0, r0⟩ := trodAll_cons hA
  obtain ⟨v1, vs1, d1, ds1, p1, q1, rfl, rfl, rfl, h1, r1⟩ := trodAll_cons r0
  obtain ⟨rfl, rfl, rfl⟩ := trodAll_nil r1
  obtain rfl : args = #[v0, v1] := by cases args; simp_all
  obtain ⟨rfl, rfl⟩ := trodVars_none hV
  obtain ⟨a0, n0, c0, rfl⟩ := okWide_slice Try.underlying22 (hval 0 22 v0 rfl rfl)
  have k0 := h0
  have lt0 : ∀ x ∈ p0, x.block < W.heap.size := by obtain ⟨m, hm⟩ := k0; exact DataW.trod_lt m _ _ _ hm
  obtain ⟨l0, w0, m0, b0⟩ : ∃ l : List UInt8, Rd W W.heap.size a0 n0 (bv l) ∧ n0 ≤ c0 ∧ n0 ≤ 9223372036854775807 := by
    obtain ⟨fuel, hf⟩ := h0
    rcases open_ints Try.underlying22 Try.underlying5 (by kernel_rfl) hf with ⟨hcs, _⟩ | ⟨x, l, c, zs, hcs, _, hl, hm, hz, _, hcell, hwz⟩
    · simp [Value.cells] at hcs
      obtain ⟨rfl, rfl, rfl⟩ := hcs
      exact ⟨[], Rd.nil _ _ _, Nat.le_refl _, by omega⟩
    · simp [Value.cells] at hcs
      obtain ⟨rfl, rfl, rfl⟩ := hcs
      unfold maxLen at hm
      obtain ⟨l, hl2⟩ := rd_bytes hl (by simpa using hz) hcell hwz
      exact ⟨l, hl2, hl, by omega⟩
  obtain ⟨a1, n1, c1, rfl⟩ := okWide_slice Try.underlying28 (hval 1 28 v1 rfl rfl)
  have k1 := h1
  have lt1 : ∀ x ∈ p1, x.block < W.heap.size := by obtain ⟨m, hm⟩ := k1; exact DataW.trod_lt m _ _ _ hm
  obtain ⟨l1, w1, x1, m1, b1⟩ : ∃ l : List Int, Rd W W.heap.size a1 n1 (iv l) ∧ (∀ x ∈ l, -9223372036854775808 ≤ x ∧ x ≤ 9223372036854775807) ∧ n1 ≤ c1 ∧ n1 ≤ 9223372036854775807 := by
    obtain ⟨fuel, hf⟩ := h1
    rcases open_ints Try.underlying28 Try.underlying3 (by kernel_rfl) hf with ⟨hcs, _⟩ | ⟨x, l, c, zs, hcs, _, hl, hm, hz, _, hcell, hwz⟩
    · simp [Value.cells] at hcs
      obtain ⟨rfl, rfl, rfl⟩ := hcs
      exact ⟨[], Rd.nil _ _ _, (fun _ h => by cases h), Nat.le_refl _, by omega⟩
    · simp [Value.cells] at hcs
      obtain ⟨rfl, rfl, rfl⟩ := hcs
      unfold maxLen at hm
      obtain ⟨l, hl2, hx⟩ := rd_ints hl (by simpa using hz) hcell hwz
      exact ⟨l, hl2, hx, hl, by omega⟩
  clear hA0 hval0
  refine (walk a0 n0 c0 l0 a1 n1 c1 l1 W w0 m0 b0 w1 m1 b1 x1).mono fun e W' ⟨he, bel⟩ => ?_
  subst he
  exact ⟨_, rfl, _, _, _, [], _, [], hW', trodAll_mk1 (shut_bool Try.underlying4 _), (trodAll_cons_mk (Below.trod laidOut (by kernel_rfl) (of_decide_eq_true (by kernel_rfl)) k0 bel lt0) (trodAll_cons_mk (Below.trod laidOut (by kernel_rfl) (of_decide_eq_true (by kernel_rfl)) k1 bel lt1) trodAll_mk0)), rfl, bel.frame _, fun h => by cases h⟩

theorem over : Rows.octetListsRow.holds Try.pinned (OpenSpec.ofChange Rows.octetListsSpec) :=
  OpenClaim.holds_of_wide 4 Try.f4 rfl rfl rfl rfl rfl rfl rfl ⟨rfl, rfl, rfl, rfl, rfl⟩ rfl rfl rfl rfl rfl (by kernel_rfl) Try.func4 (by kernel_rfl)
    (of_decide_eq_true (by kernel_rfl)) (by unfold Func.isWrapper; first | (rw [if_pos (by decide +kernel)]; kernel_rfl) | (rw [if_neg (by decide +kernel)]; exact ⟨rfl, rfl⟩))
    (fun os started H enc _ => lifted os started H enc)
/-- the given statement -/
theorem proved : Rows.OctetListsSaid := over
#print axioms proved
end Go.Proofs.Ytinjkhblpdphoaa.octetListsDone
