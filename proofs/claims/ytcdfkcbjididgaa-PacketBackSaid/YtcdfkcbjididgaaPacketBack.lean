/- PacketBack: for every input the law answers true and leaves its arguments as they were. -/
import Derived.Test.YtcdfkcbjididgaaRows
import Derived.Test.YtcdfkcbjididgaaPkO
import Derived.ProofKit
import Derived.OpenShut
import Derived.ShutString
import Derived.ChangeOld
namespace Go.Proofs.Ytcdfkcbjididgaa.packetBackDone
open Go.RowKit Mem SM lib sum PM pk
set_option linter.unusedVariables false
set_option maxRecDepth 20000 in
set_option maxHeartbeats 16000000 in
theorem walk (p : Pk) (A : Option Addr) (n c : Nat) (w : World) (h : Rd w w.heap.size A n (bv p.data)) (hc : n ≤ c) (hn : n ≤ 9223372036854775807) (hu : u32P p) :
    Calls Try.prog 5 #[pkV p A n c] w fun e w' => e = .returned (.bool true) ∧ Below w.heap.size w w' := by
  have hlen : n = p.data.length := by rw [← bv_len, h.len]
  obtain ⟨W, hW⟩ : ∃ W, W = w.alloc (pkO p A n c) := ⟨_, rfl⟩
  obtain ⟨g, hg⟩ : ∃ g, g = w.heap.size := ⟨_, rfl⟩
  have hP : PkAt W g p A n c := by rw [hW, hg]; exact PkAt.new _ _ _ _ _
  have hs : W.heap.size = g + 1 := by rw [hW, hg]; simp
  have hgl : g < W.heap.size := by omega
  have hb0 : Below w.heap.size w W := by rw [hW]; exact (Below.refl _ _).alloc (Nat.le_refl _) _
  have hr0 := h.below hb0 (Nat.le_refl _)
  have HP := Lib.hid hP
  have HW := Lib.hid hW
  have HG := Lib.hid hg
  have HS := Lib.hid hs
  have HL := Lib.hid hlen
  obtain ⟨c0, c1, c2, c3, c4, c5, c6, c7, c8, c9, c10⟩ := hP
  have hput := put_any p A n c _ W hr0 hb0.size hc hn hu
  unfold PutPost at hput
  clear hW hg hs hlen
  unfold pkV
  by_cases hbig : 16384 < n
  · clear hput
    go_enter Try.func5, Try.ntmps5
    go_upto_region 1 with fail
    have hW2 : w.alloc (.cells #[.int .i64 p.src, .int .i64 p.dst, .int .i64 p.sport, .int .i64 p.dport, .int .u32 p.seq, .int .u32 p.ack, .int .i64 p.flags, .int .i64 p.window, .int .i64 p.probe, .int .i64 p.origin, .slice A n c] 25) = W := HW.out.symm
    rw [hW2, ← HG.out]
    clear hW2
    go_wp2_with fail
    refine (awake_any _).mono ?_
    rintro e w1 ⟨rfl, hb1⟩
    go_wp2
    go_ret
    exact ⟨rfl, hb0.trans (hb1.mono hb0.size)⟩
  · by_cases hok : okP p
    · rw [chk_ok hok, show putR p = putB p from if_pos hok] at hput
      have HPUT := Lib.hid hput
      have HOK := Lib.hid hok
      have hep := err_put p hok hu
      have hpp := pk_put p hok hu
      have HE := Lib.hid (And.intro hep.1 hpp)
      clear hput hok hep hpp
      go_enter Try.func5, Try.ntmps5
      go_upto_region 1 with fail
      have hW2 : w.alloc (.cells #[.int .i64 p.src, .int .i64 p.dst, .int .i64 p.sport, .int .i64 p.dport, .int .u32 p.seq, .int .u32 p.ack, .int .i64 p.flags, .int .i64 p.window, .int .i64 p.probe, .int .i64 p.origin, .slice A n c] 25) = W := HW.out.symm
      rw [hW2, ← HG.out]
      clear hW2
      go_wp2_with fail
      refine HPUT.out.mono ?_
      rintro e w1 ⟨A1, N1, C1, rfl, ho1, hb1⟩
      have hN1 : N1 = (putB p).length := by rw [← ho1.len, bv_len]
      have hN1b : 22 + n ≤ N1 ∧ N1 ≤ 40000 := by
        have h1 := putB_len p
        have h2 := optB_len p
        have h3 := HL.out
        omega
      have HN1 := Lib.hid hN1
      clear hN1 c0 c1 c2 c3 c4 c5 c6 c7 c8 c9 c10
      have hget := get_any A1 N1 C1 _ (putB p) w1 ho1.rd (Nat.le_refl _) ho1.cap.1 (by omega)
      unfold GetPost at hget
      rw [HE.out.1, HE.out.2] at hget
      have HGET := Lib.hid hget
      clear hget
      go_wp2_with fail
      refine HGET.out.mono ?_
      rintro e w2 ⟨A3, N3, C3, rfl, ho3, hb2⟩
      have hb12 : Below W.heap.size W w2 := hb1.trans (hb2.mono hb1.size)
      obtain ⟨w3, hw3⟩ : ∃ w3, w3 = w2.alloc (pkO p A3 N3 C3) := ⟨_, rfl⟩
      obtain ⟨g3, hg3⟩ : ∃ g3, g3 = w2.heap.size := ⟨_, rfl⟩
      have hP3 : PkAt w3 g3 p A3 N3 C3 := by rw [hw3, hg3]; exact PkAt.new _ _ _ _ _
      have hb23 : Below w2.heap.size w2 w3 := by rw [hw3]; exact (Below.refl _ _).alloc (Nat.le_refl _) _
      have hb13 : Below W.heap.size W w3 := hb12.trans (hb23.mono hb12.size)
      obtain ⟨c0, c1, c2, c3, c4, c5, c6, c7, c8, c9, c10⟩ := HP.out.below hb13 hgl
      obtain ⟨d0, d1, d2, d3, d4, d5, d6, d7, d8, d9, d10⟩ := hP3
      have hsm := same_any p p A A3 n c N3 C3 w3.heap.size w3.heap.size w3 ((hr0.below hb13 hb0.size).more (Nat.le_trans hb0.size hb13.size)) ((ho3.below hb23 (Nat.le_refl _)).rd) (Nat.le_refl _) (Nat.le_refl _)
      rw [decide_eq_true rfl] at hsm
      have HSM := Lib.hid hsm
      have HW3 := Lib.hid hw3
      have HG3 := Lib.hid hg3
      clear hsm hw3 hg3
      unfold pkV
      go_upto_region 7 with fail
      have hw4 : w2.alloc (.cells #[.int .i64 p.src, .int .i64 p.dst, .int .i64 p.sport, .int .i64 p.dport, .int .u32 p.seq, .int .u32 p.ack, .int .i64 p.flags, .int .i64 p.window, .int .i64 p.probe, .int .i64 p.origin, .slice A3 N3 C3] 25) = w3 := HW3.out.symm
      rw [hw4, ← HG3.out]
      clear hw4
      go_wp2_with fail
      refine HSM.out.mono ?_
      rintro e w5 ⟨rfl, hb5⟩
      have hb15 : Below W.heap.size W w5 := hb13.trans (hb5.mono hb13.size)
      clear c0 c1 c2 c3 c4 c5 c6 c7 c8 c9 c10 d0 d1 d2 d3 d4 d5 d6 d7 d8 d9 d10
      have c10 := (HP.out.below hb15 hgl).c10
      go_wp2_with fail
      refine (awake_any _).mono ?_
      rintro e w6 ⟨rfl, hb6⟩
      go_wp2
      go_ret
      exact ⟨rfl, hb0.trans ((hb15.mono hb0.size).trans (hb6.mono (Nat.le_trans hb0.size hb15.size)))⟩
    · rw [chk_no hok, show putR p = [] from if_neg hok] at hput
      have hck := check_any p A n c
      rw [chk_no hok] at hck
      have HCK := Lib.hid hck
      have HPUT := Lib.hid hput
      clear hput hok hck
      go_enter Try.func5, Try.ntmps5
      go_upto_region 1 with fail
      have hW2 : w.alloc (.cells #[.int .i64 p.src, .int .i64 p.dst, .int .i64 p.sport, .int .i64 p.dport, .int .u32 p.seq, .int .u32 p.ack, .int .i64 p.flags, .int .i64 p.window, .int .i64 p.probe, .int .i64 p.origin, .slice A n c] 25) = W := HW.out.symm
      rw [hW2, ← HG.out]
      clear hW2
      go_wp2_with fail
      refine HPUT.out.mono ?_
      rintro e w1 ⟨A1, N1, C1, rfl, ho1, hb1⟩
      have hN1 : N1 = 0 := by rw [← ho1.len, bv_len]; rfl
      subst hN1
      clear c0 c1 c2 c3 c4 c5 c6 c7 c8 c9 c10
      obtain ⟨c0, c1, c2, c3, c4, c5, c6, c7, c8, c9, c10⟩ := HP.out.below hb1 hgl
      go_wp2_with fail
      refine (HCK.out w1 HL.out hn).mono ?_
      rintro e w2 ⟨rfl, hb2⟩
      go_wp2_with fail
      refine (awake_any _).mono ?_
      rintro e w6 ⟨rfl, hb6⟩
      go_wp2
      go_ret
      have hb12 : Below W.heap.size W w2 := hb1.trans (hb2.mono hb1.size)
      exact ⟨rfl, hb0.trans ((hb12.mono hb0.size).trans (hb6.mono (Nat.le_trans hb0.size hb12.size)))⟩
end Go.Proofs.Ytcdfkcbjididgaa.packetBackDone
namespace Go.Proofs.Ytcdfkcbjididgaa.packetBackDone
open Go.ChangeShapes Go.WideShapes Go.ChangeAt Go.RowKit Mem SM lib sum PM pk
set_option linter.unusedVariables false
theorem own : ownKnob Try.prog.godebug = none := by kernel_rfl
theorem laidOut : laidOutB Try.prog = true := by kernel_rfl
set_option maxRecDepth 100000 in
theorem lifted (os : Os) (started : os.Started) (H : Type) (enc : TypeId × Value → H) :
    ReturnsInHanded {} Try.checked os 5 .any (Rows.packetBackSpec.pre6 enc Try.prog Try.f5 Rows.packetBackRow.domain false) (Rows.packetBackSpec.post enc Try.prog Try.f5 false true false false) := by
  refine returnsInHanded_of_change (C := Try.checked) own started (by kernel_rfl) Try.func5
    (ChangeSpec.witness6 (enc := enc) (C := Try.checked) false ⟨#[], #[.agg #[.int .i64 0, .int .i64 0, .int .i64 0, .int .i64 0, .int .u32 0, .int .u32 0, .int .i64 0, .int .i64 0, .int .i64 0, .int .i64 0, .slice none 0 0]], []⟩ 8 (by kernel_rfl) (by kernel_rfl) (by kernel_rfl) (by kernel_rfl)) ?_
  intro W base args ds gs before hval0 hW hcnd _
  have hval : ∀ (j : Nat) t v, Try.f5.params[j]? = some t → args[j]? = some v → Value.okWide Try.prog W .any base t v := hval0
  have hW' := hW
  obtain ⟨p, q, hA0, hV, rfl, hfz, hnd⟩ := hW
  have hA : DataW.TrodAll enc Try.prog W 0 (fun _ => true) true Try.f5.params.toList args.toList ds p := hA0
  rw [Try.params5] at hA hval
  obtain ⟨v0, vs0, d0, ds0, p0, q0, hargs, rfl, rfl, h0, r0⟩ := trodAll_cons hA
  obtain ⟨rfl, rfl, rfl⟩ := trodAll_nil r0
  obtain rfl : args = #[v0] := by cases args; simp_all
  obtain ⟨rfl, rfl⟩ := trodVars_none hV
  have k0 := h0
  have lt0 : ∀ x ∈ p0, x.block < W.heap.size := by obtain ⟨m, hm⟩ := k0; exact DataW.trod_lt m _ _ _ hm
  obtain ⟨P0, A0, n0, c0, rfl, w0, m0, b0, u0⟩ := open_pk (hval 0 25 v0 rfl rfl) h0
  clear hA0 hval0
  refine (walk P0 A0 n0 c0 W w0 m0 b0 u0).mono fun e W' ⟨he, bel⟩ => ?_
  subst he
  exact ⟨_, rfl, _, _, _, [], _, [], hW', trodAll_mk1 (shut_bool Try.underlying4 _), (trodAll_cons_mk (Below.trod laidOut (by kernel_rfl) (of_decide_eq_true (by kernel_rfl)) k0 bel lt0) trodAll_mk0), rfl, bel.frame _, fun h => by cases h⟩

theorem over : Rows.packetBackRow.holds Try.pinned (OpenSpec.ofChange Rows.packetBackSpec) :=
  OpenClaim.holds_of_wide 5 Try.f5 rfl rfl rfl rfl rfl rfl rfl ⟨rfl, rfl, rfl, rfl, rfl⟩ rfl rfl rfl rfl rfl (by kernel_rfl) Try.func5 (by kernel_rfl)
    (of_decide_eq_true (by kernel_rfl)) (by unfold Func.isWrapper; first | (rw [if_pos (by decide +kernel)]; kernel_rfl) | (rw [if_neg (by decide +kernel)]; exact ⟨rfl, rfl⟩))
    (fun os started H enc _ => lifted os started H enc)
/-- the given statement -/
theorem proved : Rows.PacketBackSaid := over
#print axioms proved
end Go.Proofs.Ytcdfkcbjididgaa.packetBackDone
