/- PacketAlone: for every input the law answers true and leaves its arguments as they were. -/
import Derived.Test.YtcdfkcbjididgaaRows
import Derived.Test.YtcdfkcbjididgaaPkP
import Derived.ProofKit
import Derived.OpenShut
import Derived.ShutString
import Derived.ChangeOld
namespace Go.Proofs.Ytcdfkcbjididgaa.packetAloneDone
open Go.RowKit Mem SM lib sum PM pk
set_option linter.unusedVariables false
set_option maxRecDepth 20000 in
set_option maxHeartbeats 16000000 in
theorem walk (p : Pk) (A : Option Addr) (m c : Nat) (n : Int) (w : World) (h : Rd w w.heap.size A m (bv p.data)) (hc : m ≤ c) (hm : m ≤ 9223372036854775807) (hu : u32P p) (_hn : (Lit.int .i64 n).wf = true) :
    Calls Try.prog 10 #[pkV p A m c, .int .i64 n] w fun e w' => e = .returned (.bool true) ∧ Below w.heap.size w w' := by
  have hlen : m = p.data.length := by rw [← bv_len, h.len]
  obtain ⟨W, hW⟩ : ∃ W, W = w.alloc (pkO (qP p 0) A m c) := ⟨_, rfl⟩
  obtain ⟨g, hg⟩ : ∃ g, g = w.heap.size := ⟨_, rfl⟩
  have hP : PkAt W g (qP p 0) A m c := by rw [hW, hg]; exact PkAt.new _ _ _ _ _
  have hs : W.heap.size = g + 1 := by rw [hW, hg]; simp
  have hgl : g < W.heap.size := by omega
  have hb0 : Below w.heap.size w W := by rw [hW]; exact (Below.refl _ _).alloc (Nat.le_refl _) _
  have hr0 := h.below hb0 (Nat.le_refl _)
  have HP := Lib.hid hP
  have HW := Lib.hid hW
  have HG := Lib.hid hg
  have HL := Lib.hid hlen
  have hu0 : u32P (qP p 0) := hu
  have hck := fun w1 => check_any (qP p 0) A m c w1 hlen hm
  have c0 : W.cell? ⟨g, 0, none⟩ = some (.int .i64 p.src) := hP.c0
  have c1 : W.cell? ⟨g, 1, none⟩ = some (.int .i64 p.dst) := hP.c1
  have c2 : W.cell? ⟨g, 2, none⟩ = some (.int .i64 p.sport) := hP.c2
  have c3 : W.cell? ⟨g, 3, none⟩ = some (.int .i64 p.dport) := hP.c3
  have c4 : W.cell? ⟨g, 4, none⟩ = some (.int .u32 p.seq) := hP.c4
  have c5 : W.cell? ⟨g, 5, none⟩ = some (.int .u32 p.ack) := hP.c5
  have c6 : W.cell? ⟨g, 6, none⟩ = some (.int .i64 p.flags) := hP.c6
  have c7 : W.cell? ⟨g, 7, none⟩ = some (.int .i64 p.window) := hP.c7
  have c8 : W.cell? ⟨g, 8, none⟩ = some (.int .i64 0) := hP.c8
  have c9 : W.cell? ⟨g, 9, none⟩ = some (.int .i64 p.origin) := hP.c9
  have c10 : W.cell? ⟨g, 10, none⟩ = some (.slice A m c) := hP.c10
  clear hW hg hs hlen hP _hn
  unfold pkV
  by_cases hbig : 16384 < m
  · clear hck
    go_enter Try.func10, Try.ntmps10
    go_upto_region 2 with fail
    have hW2 : w.alloc (.cells #[.int .i64 p.src, .int .i64 p.dst, .int .i64 p.sport, .int .i64 p.dport, .int .u32 p.seq, .int .u32 p.ack, .int .i64 p.flags, .int .i64 p.window, .int .i64 0, .int .i64 p.origin, .slice A m c] 25) = W := HW.out.symm
    rw [hW2, ← HG.out]
    clear hW2
    go_wp2_with fail
    refine (awake_any _).mono ?_
    rintro e wz ⟨rfl, hbz⟩
    go_wp2
    go_ret
    exact ⟨rfl, hb0.trans (hbz.mono hb0.size)⟩
  · by_cases hok : okP (qP p 0)
    · rw [chk_ok hok] at hck
      have HCK := Lib.hid hck
      clear hck
      by_cases hn1 : n < 1
      · have e1 : decide (n < 1) = true := decide_eq_true hn1
        go_enter Try.func10, Try.ntmps10
        go_upto_region 2 with fail
        have hW2 : w.alloc (.cells #[.int .i64 p.src, .int .i64 p.dst, .int .i64 p.sport, .int .i64 p.dport, .int .u32 p.seq, .int .u32 p.ack, .int .i64 p.flags, .int .i64 p.window, .int .i64 0, .int .i64 p.origin, .slice A m c] 25) = W := HW.out.symm
        rw [hW2, ← HG.out]
        clear hW2
        go_wp2_with fail
        refine (HCK.out W).mono ?_
        rintro e w1 ⟨rfl, hb1⟩
        have hb01 := hb0.trans (hb1.mono hb0.size)
        go_wp2_with fail
        refine (awake_any _).mono ?_
        rintro e wz ⟨rfl, hbz⟩
        go_wp2
        go_ret
        exact ⟨rfl, hb01.trans (hbz.mono hb01.size)⟩
      · have e1 : decide (n < 1) = false := decide_eq_false hn1
        by_cases hn2 : 1099511627776 < n
        · have e2 : decide (1099511627776 < n) = true := decide_eq_true hn2
          go_enter Try.func10, Try.ntmps10
          go_upto_region 2 with fail
          have hW2 : w.alloc (.cells #[.int .i64 p.src, .int .i64 p.dst, .int .i64 p.sport, .int .i64 p.dport, .int .u32 p.seq, .int .u32 p.ack, .int .i64 p.flags, .int .i64 p.window, .int .i64 0, .int .i64 p.origin, .slice A m c] 25) = W := HW.out.symm
          rw [hW2, ← HG.out]
          clear hW2
          go_wp2_with fail
          refine (HCK.out W).mono ?_
          rintro e w1 ⟨rfl, hb1⟩
          have hb01 := hb0.trans (hb1.mono hb0.size)
          go_wp2_with fail
          refine (awake_any _).mono ?_
          rintro e wz ⟨rfl, hbz⟩
          go_wp2
          go_ret
          exact ⟨rfl, hb01.trans (hbz.mono hb01.size)⟩
        · have e2 : decide (1099511627776 < n) = false := decide_eq_false hn2
          have hokq : okP (qP (qP p 0) n) := probed_ok (qP p 0) n hok (by omega) (by omega)
          have huq : u32P (qP (qP p 0) n) := hu
          have hp0 := err_put (qP p 0) hok hu0
          have hpq := err_put (qP (qP p 0) n) hokq huq
          have hx1 : probedE (putB (qP p 0)) n = 0 ∧ probedB (putB (qP p 0)) n = putB (qP (qP p 0) n) := by
            unfold probedE probedB
            rw [if_pos hp0.1, if_pos hp0.1, hp0.2, chk_ok hokq]
            exact ⟨rfl, if_pos hokq⟩
          have hx2 : probedE (putB (qP (qP p 0) n)) 0 = 0 ∧ probedB (putB (qP (qP p 0) n)) 0 = putB (qP p 0) := by
            unfold probedE probedB
            rw [if_pos hpq.1, if_pos hpq.1, hpq.2]
            have e : qP (qP (qP p 0) n) 0 = qP p 0 := rfl
            rw [e, chk_ok hok]
            exact ⟨rfl, if_pos hok⟩
          have hx3 : errOf (putB (qP (qP p 0) n)) = 0 ∧ pkOf (putB (qP (qP p 0) n)) = qP (qP p 0) n := ⟨hpq.1, pk_put _ hokq huq⟩
          have hl0 := putB_len (qP p 0)
          have hlq := putB_len (qP (qP p 0) n)
          have ho0 := optB_len (qP p 0)
          have hoq := optB_len (qP (qP p 0) n)
          have hd0 : (qP p 0).data.length = m := HL.out.symm
          have hdq : (qP (qP p 0) n).data.length = m := HL.out.symm
          obtain ⟨b0, hbb0⟩ : ∃ b0, b0 = putB (qP p 0) := ⟨_, rfl⟩
          obtain ⟨bq, hbbq⟩ : ∃ bq, bq = putB (qP (qP p 0) n) := ⟨_, rfl⟩
          have hput : ∀ w1, Below W.heap.size W w1 → Calls Try.prog 15 #[pkV (qP p 0) A m c] w1 fun e w' => ∃ A N c, e = .returned (.tuple #[.slice A N c, .int .i64 0]) ∧ Ow w' w1.heap.size 5 A N c (bv b0) ∧ Below w1.heap.size w1 w' := fun w1 hb => by
            have := put_any (qP p 0) A m c _ w1 (hr0.below hb hb0.size) (Nat.le_trans hb0.size hb.size) hc hm hu0
            unfold PutPost at this
            rw [chk_ok hok, show putR (qP p 0) = putB (qP p 0) from if_pos hok, ← hbb0] at this
            exact this
          rw [← hbb0, ← hbbq] at hx1
          rw [← hbb0, ← hbbq] at hx2
          rw [← hbbq] at hx3 hlq
          rw [← hbb0] at hl0
          have hlb : b0.length ≤ 20000 ∧ bq.length ≤ 20000 := by omega
          have hpr1 : ∀ B1 N1 C1 w2, Rd w2 w2.heap.size B1 N1 (bv b0) → N1 ≤ C1 → N1 ≤ 1099511627776 → Calls Try.prog 29 #[.slice B1 N1 C1, .int .i64 n] w2 fun e w' => ∃ A N c, e = .returned (.tuple #[.slice A N c, .int .i64 0]) ∧ Ow w' w2.heap.size 5 A N c (bv bq) ∧ Below w2.heap.size w2 w' := fun B1 N1 C1 w2 h1 h2 h3 => by
            have := probed_any B1 N1 C1 _ b0 n w2 h1 (Nat.le_refl _) h2 h3
            unfold ProbedPost at this
            rw [hx1.1, hx1.2] at this
            exact this
          have hpr2 : ∀ B1 N1 C1 w2, Rd w2 w2.heap.size B1 N1 (bv bq) → N1 ≤ C1 → N1 ≤ 1099511627776 → Calls Try.prog 29 #[.slice B1 N1 C1, .int .i64 0] w2 fun e w' => ∃ A N c, e = .returned (.tuple #[.slice A N c, .int .i64 0]) ∧ Ow w' w2.heap.size 5 A N c (bv b0) ∧ Below w2.heap.size w2 w' := fun B1 N1 C1 w2 h1 h2 h3 => by
            have := probed_any B1 N1 C1 _ bq 0 w2 h1 (Nat.le_refl _) h2 h3
            unfold ProbedPost at this
            rw [hx2.1, hx2.2] at this
            exact this
          have hget : ∀ B1 N1 C1 B w2, Rd w2 B B1 N1 (bv bq) → B ≤ w2.heap.size → N1 ≤ C1 → N1 ≤ 1099511627776 → Calls Try.prog 21 #[.slice B1 N1 C1] w2 fun e w' => ∃ A N c, e = .returned (.tuple #[pkV (qP p n) A N c, .int .i64 0]) ∧ Ow w' w2.heap.size 5 A N c (bv p.data) ∧ Below w2.heap.size w2 w' := fun B1 N1 C1 B w2 h1 hB h2 h3 => by
            have := get_any B1 N1 C1 B bq w2 h1 hB h2 h3
            unfold GetPost at this
            rw [hx3.1, hx3.2] at this
            exact this
          have HPUT := Lib.hid hput
          have HPR1 := Lib.hid hpr1
          have HPR2 := Lib.hid hpr2
          have HGET := Lib.hid hget
          clear hput hpr1 hpr2 hget hx1 hx2 hx3 hl0 hlq ho0 hoq hd0 hdq hbb0 hbbq hp0 hpq hok hokq huq
          go_enter Try.func10, Try.ntmps10
          go_upto_region 2 with fail
          have hW2 : w.alloc (.cells #[.int .i64 p.src, .int .i64 p.dst, .int .i64 p.sport, .int .i64 p.dport, .int .u32 p.seq, .int .u32 p.ack, .int .i64 p.flags, .int .i64 p.window, .int .i64 0, .int .i64 p.origin, .slice A m c] 25) = W := HW.out.symm
          rw [hW2, ← HG.out]
          clear hW2
          go_wp2_with fail
          refine (HCK.out W).mono ?_
          rintro e w1 ⟨rfl, hb1⟩
          have hb01 := hb0.trans (hb1.mono hb0.size)
          clear c0 c1 c2 c3 c4 c5 c6 c7 c8 c9 c10
          have hP1 := HP.out.below hb1 hgl
          have c0 : w1.cell? ⟨g, 0, none⟩ = some (.int .i64 p.src) := hP1.c0
          have c1 : w1.cell? ⟨g, 1, none⟩ = some (.int .i64 p.dst) := hP1.c1
          have c2 : w1.cell? ⟨g, 2, none⟩ = some (.int .i64 p.sport) := hP1.c2
          have c3 : w1.cell? ⟨g, 3, none⟩ = some (.int .i64 p.dport) := hP1.c3
          have c4 : w1.cell? ⟨g, 4, none⟩ = some (.int .u32 p.seq) := hP1.c4
          have c5 : w1.cell? ⟨g, 5, none⟩ = some (.int .u32 p.ack) := hP1.c5
          have c6 : w1.cell? ⟨g, 6, none⟩ = some (.int .i64 p.flags) := hP1.c6
          have c7 : w1.cell? ⟨g, 7, none⟩ = some (.int .i64 p.window) := hP1.c7
          have c8 : w1.cell? ⟨g, 8, none⟩ = some (.int .i64 0) := hP1.c8
          have c9 : w1.cell? ⟨g, 9, none⟩ = some (.int .i64 p.origin) := hP1.c9
          have c10 : w1.cell? ⟨g, 10, none⟩ = some (.slice A m c) := hP1.c10
          clear hP1
          go_wp2_with fail
          refine (HPUT.out w1 hb1).mono ?_
          rintro e w2 ⟨B1, N1, C1, rfl, ho2, hb2⟩
          have hN1 : N1 = b0.length := by rw [← bv_len, ho2.rd.len]
          subst hN1
          have hb12 := hb1.trans (hb2.mono hb1.size)
          go_wp2_with fail
          refine (HPR1.out B1 _ C1 w2 ho2.rd ho2.cap.1 (Nat.le_trans hlb.1 (by decide))).mono ?_
          rintro e w3 ⟨B2, N2, C2, rfl, ho3, hb3⟩
          have hN2 : N2 = bq.length := by rw [← bv_len, ho3.rd.len]
          subst hN2
          have hb13 := hb12.trans (hb3.mono hb12.size)
          go_wp2_with fail
          refine (HPR2.out B2 _ C2 w3 ho3.rd ho3.cap.1 (Nat.le_trans hlb.2 (by decide))).mono ?_
          rintro e w4 ⟨B3, N3, C3, rfl, ho4, hb4⟩
          have hb14 := hb13.trans (hb4.mono hb13.size)
          go_wp2_with fail
          refine (HGET.out B2 _ C2 _ w4 (ho3.below hb4 (Nat.le_refl _)).rd (Nat.le_refl _) ho3.cap.1 (Nat.le_trans hlb.2 (by decide))).mono ?_
          rintro e w5 ⟨A5, N5, C5, rfl, ho5, hb5⟩
          have hb15 := hb14.trans (hb5.mono hb14.size)
          obtain ⟨w6, hw6⟩ : ∃ w6, w6 = w5.alloc (pkO (qP p 0) A5 N5 C5) := ⟨_, rfl⟩
          obtain ⟨g6, hg6⟩ : ∃ g6, g6 = w5.heap.size := ⟨_, rfl⟩
          have hQ : PkAt w6 g6 (qP p 0) A5 N5 C5 := by rw [hw6, hg6]; exact PkAt.new _ _ _ _ _
          have hb56 : Below w5.heap.size w5 w6 := by rw [hw6]; exact (Below.refl _ _).alloc (Nat.le_refl _) _
          have hb16 := hb15.trans (hb56.mono hb15.size)
          have HW6 := Lib.hid hw6
          have HG6 := Lib.hid hg6
          clear hw6 hg6
          clear c0 c1 c2 c3 c4 c5 c6 c7 c8 c9 c10
          unfold pkV qP
          go_upto_region 11 with fail
          have hw7 : w5.alloc (.cells #[.int .i64 p.src, .int .i64 p.dst, .int .i64 p.sport, .int .i64 p.dport, .int .u32 p.seq, .int .u32 p.ack, .int .i64 p.flags, .int .i64 p.window, .int .i64 0, .int .i64 p.origin, .slice A5 N5 C5] 25) = w6 := HW6.out.symm
          rw [hw7, ← HG6.out]
          clear hw7
          have hP6 := HP.out.below hb16 hgl
          have c0 : w6.cell? ⟨g, 0, none⟩ = some (.int .i64 p.src) := hP6.c0
          have c1 : w6.cell? ⟨g, 1, none⟩ = some (.int .i64 p.dst) := hP6.c1
          have c2 : w6.cell? ⟨g, 2, none⟩ = some (.int .i64 p.sport) := hP6.c2
          have c3 : w6.cell? ⟨g, 3, none⟩ = some (.int .i64 p.dport) := hP6.c3
          have c4 : w6.cell? ⟨g, 4, none⟩ = some (.int .u32 p.seq) := hP6.c4
          have c5 : w6.cell? ⟨g, 5, none⟩ = some (.int .u32 p.ack) := hP6.c5
          have c6 : w6.cell? ⟨g, 6, none⟩ = some (.int .i64 p.flags) := hP6.c6
          have c7 : w6.cell? ⟨g, 7, none⟩ = some (.int .i64 p.window) := hP6.c7
          have c8 : w6.cell? ⟨g, 8, none⟩ = some (.int .i64 0) := hP6.c8
          have c9 : w6.cell? ⟨g, 9, none⟩ = some (.int .i64 p.origin) := hP6.c9
          have c10 : w6.cell? ⟨g, 10, none⟩ = some (.slice A m c) := hP6.c10
          have d0 : w6.cell? ⟨g6, 0, none⟩ = some (.int .i64 p.src) := hQ.c0
          have d1 : w6.cell? ⟨g6, 1, none⟩ = some (.int .i64 p.dst) := hQ.c1
          have d2 : w6.cell? ⟨g6, 2, none⟩ = some (.int .i64 p.sport) := hQ.c2
          have d3 : w6.cell? ⟨g6, 3, none⟩ = some (.int .i64 p.dport) := hQ.c3
          have d4 : w6.cell? ⟨g6, 4, none⟩ = some (.int .u32 p.seq) := hQ.c4
          have d5 : w6.cell? ⟨g6, 5, none⟩ = some (.int .u32 p.ack) := hQ.c5
          have d6 : w6.cell? ⟨g6, 6, none⟩ = some (.int .i64 p.flags) := hQ.c6
          have d7 : w6.cell? ⟨g6, 7, none⟩ = some (.int .i64 p.window) := hQ.c7
          have d8 : w6.cell? ⟨g6, 8, none⟩ = some (.int .i64 0) := hQ.c8
          have d9 : w6.cell? ⟨g6, 9, none⟩ = some (.int .i64 p.origin) := hQ.c9
          have d10 : w6.cell? ⟨g6, 10, none⟩ = some (.slice A5 N5 C5) := hQ.c10
          have hr6 := (hr0.below hb16 hb0.size).more (Nat.le_trans hb0.size hb16.size)
          have hd6 : Rd w6 w6.heap.size A5 N5 (bv p.data) := (ho5.below hb56 (Nat.le_refl _)).rd
          have r4 : Rd w6 w6.heap.size B3 N3 (bv b0) := ((ho4.below hb5 (Nat.le_refl _)).below hb56 (Nat.le_refl _)).rd
          have r2 : Rd w6 w6.heap.size B1 b0.length (bv b0) := ((((ho2.below hb3 (Nat.le_refl _)).below hb4 (Nat.le_refl _)).below hb5 (Nat.le_refl _)).below hb56 (Nat.le_refl _)).rd
          have heq := equal_any B3 B1 N3 C3 b0.length C1 w6.heap.size b0 b0 w6 r4 r2
          rw [decide_eq_true (rfl : b0 = b0)] at heq
          have hsm := same_any (qP p 0) (qP p 0) A A5 m c N5 C5 w6.heap.size w6.heap.size w6 hr6 hd6 (Nat.le_refl _) (Nat.le_refl _)
          rw [decide_eq_true (rfl : qP p 0 = qP p 0)] at hsm
          have HEQ := Lib.hid heq
          have HSM := Lib.hid hsm
          clear heq hsm hP6 hQ hr6 hd6 r4 r2 ho2 ho3 ho4 ho5
          go_wp2_with fail
          refine HEQ.out.mono ?_
          rintro e w7 ⟨rfl, rfl⟩
          go_wp2_with fail
          refine HSM.out.mono ?_
          rintro e w8 ⟨rfl, hb8⟩
          have hb18 := hb16.trans (hb8.mono hb16.size)
          have hb08 := hb0.trans (hb18.mono hb0.size)
          go_wp2_with fail
          refine (awake_any _).mono ?_
          rintro e wz ⟨rfl, hbz⟩
          go_wp2
          go_ret
          exact ⟨rfl, hb08.trans (hbz.mono hb08.size)⟩
    · rw [chk_no hok] at hck
      have HCK := Lib.hid hck
      clear hck hok
      go_enter Try.func10, Try.ntmps10
      go_upto_region 2 with fail
      have hW2 : w.alloc (.cells #[.int .i64 p.src, .int .i64 p.dst, .int .i64 p.sport, .int .i64 p.dport, .int .u32 p.seq, .int .u32 p.ack, .int .i64 p.flags, .int .i64 p.window, .int .i64 0, .int .i64 p.origin, .slice A m c] 25) = W := HW.out.symm
      rw [hW2, ← HG.out]
      clear hW2
      go_wp2_with fail
      refine (HCK.out W).mono ?_
      rintro e w1 ⟨rfl, hb1⟩
      have hb01 := hb0.trans (hb1.mono hb0.size)
      go_wp2_with fail
      refine (awake_any _).mono ?_
      rintro e wz ⟨rfl, hbz⟩
      go_wp2
      go_ret
      exact ⟨rfl, hb01.trans (hbz.mono hb01.size)⟩
end Go.Proofs.Ytcdfkcbjididgaa.packetAloneDone
namespace Go.Proofs.Ytcdfkcbjididgaa.packetAloneDone
open Go.ChangeShapes Go.WideShapes Go.ChangeAt Go.RowKit Mem SM lib sum PM pk
set_option linter.unusedVariables false
theorem own : ownKnob Try.prog.godebug = none := by kernel_rfl
theorem laidOut : laidOutB Try.prog = true := by kernel_rfl
set_option maxRecDepth 100000 in
theorem lifted (os : Os) (started : os.Started) (H : Type) (enc : TypeId × Value → H) :
    ReturnsInHanded {} Try.checked os 10 .any (Rows.packetAloneSpec.pre6 enc Try.prog Try.f10 Rows.packetAloneRow.domain false) (Rows.packetAloneSpec.post enc Try.prog Try.f10 false true false false) := by
  refine returnsInHanded_of_change (C := Try.checked) own started (by kernel_rfl) Try.func10
    (ChangeSpec.witness6 (enc := enc) (C := Try.checked) false ⟨#[], #[.agg #[.int .i64 0, .int .i64 0, .int .i64 0, .int .i64 0, .int .u32 0, .int .u32 0, .int .i64 0, .int .i64 0, .int .i64 0, .int .i64 0, .slice none 0 0], .int .i64 0], []⟩ 8 (by kernel_rfl) (by kernel_rfl) (by kernel_rfl) (by kernel_rfl)) ?_
  intro W base args ds gs before hval0 hW hcnd _
  have hval : ∀ (j : Nat) t v, Try.f10.params[j]? = some t → args[j]? = some v → Value.okWide Try.prog W .any base t v := hval0
  have hW' := hW
  obtain ⟨p, q, hA0, hV, rfl, hfz, hnd⟩ := hW
  have hA : DataW.TrodAll enc Try.prog W 0 (fun _ => true) true Try.f10.params.toList args.toList ds p := hA0
  rw [Try.params10] at hA hval
  obtain ⟨v0, vs0, d0, ds0, p0, q0, hargs, rfl, rfl, h0, r0⟩ := trodAll_cons hA
  obtain ⟨v1, vs1, d1, ds1, p1, q1, rfl, rfl, rfl, h1, r1⟩ := trodAll_cons r0
  obtain ⟨rfl, rfl, rfl⟩ := trodAll_nil r1
  obtain rfl : args = #[v0, v1] := by cases args; simp_all
  obtain ⟨rfl, rfl⟩ := trodVars_none hV
  have k0 := h0
  have lt0 : ∀ x ∈ p0, x.block < W.heap.size := by obtain ⟨m, hm⟩ := k0; exact DataW.trod_lt m _ _ _ hm
  obtain ⟨P0, A0, n0, c0, rfl, w0, m0, b0, u0⟩ := open_pk (hval 0 25 v0 rfl rfl) h0
  obtain ⟨a1, rfl, rfl, rfl, w1⟩ := open_int Try.underlying3 (hval 1 3 v1 rfl rfl) h1
  clear hA0 hval0
  refine (walk P0 A0 n0 c0 a1 W w0 m0 b0 u0 w1).mono fun e W' ⟨he, bel⟩ => ?_
  subst he
  exact ⟨_, rfl, _, _, _, [], _, [], hW', trodAll_mk1 (shut_bool Try.underlying4 _), (trodAll_cons_mk (Below.trod laidOut (by kernel_rfl) (of_decide_eq_true (by kernel_rfl)) k0 bel lt0) (trodAll_cons_mk (shut_int Try.underlying3 w1) trodAll_mk0)), rfl, bel.frame _, fun h => by cases h⟩

theorem over : Rows.packetAloneRow.holds Try.pinned (OpenSpec.ofChange Rows.packetAloneSpec) :=
  OpenClaim.holds_of_wide 10 Try.f10 rfl rfl rfl rfl rfl rfl rfl ⟨rfl, rfl, rfl, rfl, rfl⟩ rfl rfl rfl rfl rfl (by kernel_rfl) Try.func10 (by kernel_rfl)
    (of_decide_eq_true (by kernel_rfl)) (by unfold Func.isWrapper; first | (rw [if_pos (by decide +kernel)]; kernel_rfl) | (rw [if_neg (by decide +kernel)]; exact ⟨rfl, rfl⟩))
    (fun os started H enc _ => lifted os started H enc)
/-- the given statement -/
theorem proved : Rows.PacketAloneSaid := over
#print axioms proved
end Go.Proofs.Ytcdfkcbjididgaa.packetAloneDone
