/- PacketApart: for every input the law answers true and leaves its arguments as they were. -/
import Derived.Test.YtcdfkcbjididgaaRows
import Derived.Test.YtcdfkcbjididgaaPkO
import Derived.ProofKit
import Derived.OpenShut
import Derived.ShutString
import Derived.ChangeOld
namespace Go.Proofs.Ytcdfkcbjididgaa.packetApartDone
open Go.RowKit Mem SM lib sum PM pk
set_option linter.unusedVariables false
set_option maxRecDepth 20000 in
set_option maxHeartbeats 16000000 in
theorem walk (p : Pk) (A : Option Addr) (n c : Nat) (q : Pk) (A2 : Option Addr) (m d : Nat) (w : World) (h : Rd w w.heap.size A n (bv p.data)) (hc : n ≤ c) (hn : n ≤ 9223372036854775807) (hu : u32P p) (h2 : Rd w w.heap.size A2 m (bv q.data)) (hd : m ≤ d) (hm : m ≤ 9223372036854775807) (hv : u32P q) :
    Calls Try.prog 12 #[pkV p A n c, pkV q A2 m d] w fun e w' => e = .returned (.bool true) ∧ Below w.heap.size w w' := by
  obtain ⟨W, hW⟩ : ∃ W, W = (w.alloc (pkO p A n c)).alloc (pkO q A2 m d) := ⟨_, rfl⟩
  obtain ⟨g, hg⟩ : ∃ g, g = w.heap.size := ⟨_, rfl⟩
  have hb1 : Below (w.alloc (pkO p A n c)).heap.size (w.alloc (pkO p A n c)) W := by rw [hW]; exact (Below.refl _ _).alloc (Nat.le_refl _) _
  have hP : PkAt W g p A n c := by rw [hg]; exact (PkAt.new w p A n c).below hb1 (by simp)
  have hQ : PkAt W (g + 1) q A2 m d := by
    have := PkAt.new (w.alloc (pkO p A n c)) q A2 m d
    rw [hW, hg]
    simpa using this
  have hs : W.heap.size = g + 2 := by rw [hW, hg]; simp
  have hb0 : Below w.heap.size w W := by rw [hW]; exact ((Below.refl _ _).alloc (Nat.le_refl _) _).alloc (by simp) _
  have hr0 := h.below hb0 (Nat.le_refl _)
  have hr2 := h2.below hb0 (Nat.le_refl _)
  have HP := Lib.hid hP
  have HQ := Lib.hid hQ
  have HW := Lib.hid hW
  have HG := Lib.hid hg
  have HS := Lib.hid hs
  have HB := Lib.hid hb0
  have hput := put_any p A n c _ W hr0 hb0.size hc hn hu
  have hput2 := fun w1 (hb : Below W.heap.size W w1) => put_any q A2 m d _ w1 (hr2.below hb hb0.size) (Nat.le_trans hb0.size hb.size) hd hm hv
  unfold PutPost at hput hput2
  have hD : ∀ w', Below W.heap.size W w' → w'.cell? ⟨g, 0, none⟩ = some (.int .i64 p.src) ∧ w'.cell? ⟨g, 1, none⟩ = some (.int .i64 p.dst) ∧ w'.cell? ⟨g, 2, none⟩ = some (.int .i64 p.sport) ∧ w'.cell? ⟨g, 3, none⟩ = some (.int .i64 p.dport) ∧ w'.cell? ⟨g, 4, none⟩ = some (.int .u32 p.seq) ∧ w'.cell? ⟨g, 5, none⟩ = some (.int .u32 p.ack) ∧ w'.cell? ⟨g, 6, none⟩ = some (.int .i64 p.flags) ∧ w'.cell? ⟨g, 7, none⟩ = some (.int .i64 p.window) ∧ w'.cell? ⟨g, 8, none⟩ = some (.int .i64 p.probe) ∧ w'.cell? ⟨g, 9, none⟩ = some (.int .i64 p.origin) ∧ w'.cell? ⟨g, 10, none⟩ = some (.slice A n c) ∧ w'.cell? ⟨g + 1, 0, none⟩ = some (.int .i64 q.src) ∧ w'.cell? ⟨g + 1, 1, none⟩ = some (.int .i64 q.dst) ∧ w'.cell? ⟨g + 1, 2, none⟩ = some (.int .i64 q.sport) ∧ w'.cell? ⟨g + 1, 3, none⟩ = some (.int .i64 q.dport) ∧ w'.cell? ⟨g + 1, 4, none⟩ = some (.int .u32 q.seq) ∧ w'.cell? ⟨g + 1, 5, none⟩ = some (.int .u32 q.ack) ∧ w'.cell? ⟨g + 1, 6, none⟩ = some (.int .i64 q.flags) ∧ w'.cell? ⟨g + 1, 7, none⟩ = some (.int .i64 q.window) ∧ w'.cell? ⟨g + 1, 8, none⟩ = some (.int .i64 q.probe) ∧ w'.cell? ⟨g + 1, 9, none⟩ = some (.int .i64 q.origin) ∧ w'.cell? ⟨g + 1, 10, none⟩ = some (.slice A2 m d) ∧ Below W.heap.size W w' := fun w' hb => ⟨(HP.out.below hb (by rw [HS.out]; omega)).c0, (HP.out.below hb (by rw [HS.out]; omega)).c1, (HP.out.below hb (by rw [HS.out]; omega)).c2, (HP.out.below hb (by rw [HS.out]; omega)).c3, (HP.out.below hb (by rw [HS.out]; omega)).c4, (HP.out.below hb (by rw [HS.out]; omega)).c5, (HP.out.below hb (by rw [HS.out]; omega)).c6, (HP.out.below hb (by rw [HS.out]; omega)).c7, (HP.out.below hb (by rw [HS.out]; omega)).c8, (HP.out.below hb (by rw [HS.out]; omega)).c9, (HP.out.below hb (by rw [HS.out]; omega)).c10, (HQ.out.below hb (by rw [HS.out]; omega)).c0, (HQ.out.below hb (by rw [HS.out]; omega)).c1, (HQ.out.below hb (by rw [HS.out]; omega)).c2, (HQ.out.below hb (by rw [HS.out]; omega)).c3, (HQ.out.below hb (by rw [HS.out]; omega)).c4, (HQ.out.below hb (by rw [HS.out]; omega)).c5, (HQ.out.below hb (by rw [HS.out]; omega)).c6, (HQ.out.below hb (by rw [HS.out]; omega)).c7, (HQ.out.below hb (by rw [HS.out]; omega)).c8, (HQ.out.below hb (by rw [HS.out]; omega)).c9, (HQ.out.below hb (by rw [HS.out]; omega)).c10, hb⟩
  have HD := Lib.hid hD
  obtain ⟨c0, c1, c2, c3, c4, c5, c6, c7, c8, c9, c10⟩ := hP
  have e10 := hQ.c10
  clear hW hg hs hb1 hQ hD
  unfold pkV
  by_cases hbig : 16384 < n
  · clear hput hput2
    go_enter Try.func12, Try.ntmps12
    go_upto_region 1 with fail
    have hW2 : (w.alloc (.cells #[.int .i64 p.src, .int .i64 p.dst, .int .i64 p.sport, .int .i64 p.dport, .int .u32 p.seq, .int .u32 p.ack, .int .i64 p.flags, .int .i64 p.window, .int .i64 p.probe, .int .i64 p.origin, .slice A n c] 25)).alloc (.cells #[.int .i64 q.src, .int .i64 q.dst, .int .i64 q.sport, .int .i64 q.dport, .int .u32 q.seq, .int .u32 q.ack, .int .i64 q.flags, .int .i64 q.window, .int .i64 q.probe, .int .i64 q.origin, .slice A2 m d] 25) = W := HW.out.symm
    rw [hW2, ← HG.out]
    clear hW2
    go_wp2_with fail
    refine (awake_any _).mono ?_
    rintro e w1 ⟨rfl, hb1⟩
    go_wp2
    go_ret
    exact ⟨rfl, hb0.trans (hb1.mono hb0.size)⟩
  · by_cases hbig2 : 16384 < m
    · clear hput hput2
      go_enter Try.func12, Try.ntmps12
      go_upto_region 1 with fail
      have hW2 : (w.alloc (.cells #[.int .i64 p.src, .int .i64 p.dst, .int .i64 p.sport, .int .i64 p.dport, .int .u32 p.seq, .int .u32 p.ack, .int .i64 p.flags, .int .i64 p.window, .int .i64 p.probe, .int .i64 p.origin, .slice A n c] 25)).alloc (.cells #[.int .i64 q.src, .int .i64 q.dst, .int .i64 q.sport, .int .i64 q.dport, .int .u32 q.seq, .int .u32 q.ack, .int .i64 q.flags, .int .i64 q.window, .int .i64 q.probe, .int .i64 q.origin, .slice A2 m d] 25) = W := HW.out.symm
      rw [hW2, ← HG.out]
      clear hW2
      go_wp2_with fail
      refine (awake_any _).mono ?_
      rintro e w1 ⟨rfl, hb1⟩
      go_wp2
      go_ret
      exact ⟨rfl, hb0.trans (hb1.mono hb0.size)⟩
    · have HPUT2 := Lib.hid hput2
      clear hput2
      by_cases hok : okP p
      · rw [chk_ok hok, show putR p = putB p from if_pos hok] at hput
        have HPUT := Lib.hid hput
        have HOK := Lib.hid hok
        clear hput hok
        by_cases hok2 : okP q
        · have HPUT3 : Hid (∀ w1, Below W.heap.size W w1 → Calls Try.prog 15 #[pkV q A2 m d] w1 fun e w' => ∃ A N c, e = .returned (.tuple #[.slice A N c, .int .i64 0]) ∧ Ow w' w1.heap.size 5 A N c (bv (putB q)) ∧ Below w1.heap.size w1 w') := fun w1 hb => by
            have := HPUT2.out w1 hb
            rw [chk_ok hok2, show putR q = putB q from if_pos hok2] at this
            exact this
          have hinj : decide (putB p = putB q) = decide (p = q) := by
            congr 1
            rw [eq_iff_iff]
            exact ⟨put_inj p q HOK.out hu hok2 hv, fun e => by rw [e]⟩
          obtain ⟨D, hDD⟩ : ∃ D, D = decide (p = q) := ⟨_, rfl⟩
          rw [← hDD] at hinj
          have HINJ := Lib.hid hinj
          have HDD := Lib.hid hDD
          clear hinj hDD hok2
          go_enter Try.func12, Try.ntmps12
          go_upto_region 1 with fail
          have hW2 : (w.alloc (.cells #[.int .i64 p.src, .int .i64 p.dst, .int .i64 p.sport, .int .i64 p.dport, .int .u32 p.seq, .int .u32 p.ack, .int .i64 p.flags, .int .i64 p.window, .int .i64 p.probe, .int .i64 p.origin, .slice A n c] 25)).alloc (.cells #[.int .i64 q.src, .int .i64 q.dst, .int .i64 q.sport, .int .i64 q.dport, .int .u32 q.seq, .int .u32 q.ack, .int .i64 q.flags, .int .i64 q.window, .int .i64 q.probe, .int .i64 q.origin, .slice A2 m d] 25) = W := HW.out.symm
          rw [hW2, ← HG.out]
          clear hW2
          go_wp2_with fail
          refine HPUT.out.mono ?_
          rintro e w1 ⟨B1, N1, C1, rfl, ho1, hb1⟩
          obtain ⟨c0, c1, c2, c3, c4, c5, c6, c7, c8, c9, c10, d0, d1, d2, d3, d4, d5, d6, d7, d8, d9, d10, _⟩ := HD.out w1 hb1
          go_wp2_with fail
          refine (HPUT3.out w1 hb1).mono ?_
          rintro e w2 ⟨B2, N2, C2, rfl, ho2, hb2⟩
          have hb02 : Below W.heap.size W w2 := hb1.trans (hb2.mono hb1.size)
          have heq := equal_any B1 B2 N1 C1 N2 C2 w2.heap.size (putB p) (putB q)
          have hsm := fun w1 (hb : Below W.heap.size W w1) => same_any p q A A2 n c m d w1.heap.size w1.heap.size w1 ((hr0.below hb hb0.size).more (Nat.le_trans hb0.size hb.size)) ((hr2.below hb hb0.size).more (Nat.le_trans hb0.size hb.size)) (Nat.le_refl _) (Nat.le_refl _)
          rw [HINJ.out] at heq
          rw [← HDD.out] at hsm
          have HEQ := Lib.hid (heq w2.drew (ho1.below hb2 (Nat.le_refl _)).rd.drew ho2.rd.drew)
          have HSM := Lib.hid hsm
          have k0 : Below W.heap.size W w2.drew := below_drew hb02
          clear heq hsm c0 c1 c2 c3 c4 c5 c6 c7 c8 c9 c10 d0 d1 d2 d3 d4 d5 d6 d7 d8 d9 d10
          cases D
          all_goals
            go_wp2_with fail
            go_region_held3 (fun w' => w'.cell? ⟨g, 0, none⟩ = some (.int .i64 p.src) ∧ w'.cell? ⟨g, 1, none⟩ = some (.int .i64 p.dst) ∧ w'.cell? ⟨g, 2, none⟩ = some (.int .i64 p.sport) ∧ w'.cell? ⟨g, 3, none⟩ = some (.int .i64 p.dport) ∧ w'.cell? ⟨g, 4, none⟩ = some (.int .u32 p.seq) ∧ w'.cell? ⟨g, 5, none⟩ = some (.int .u32 p.ack) ∧ w'.cell? ⟨g, 6, none⟩ = some (.int .i64 p.flags) ∧ w'.cell? ⟨g, 7, none⟩ = some (.int .i64 p.window) ∧ w'.cell? ⟨g, 8, none⟩ = some (.int .i64 p.probe) ∧ w'.cell? ⟨g, 9, none⟩ = some (.int .i64 p.origin) ∧ w'.cell? ⟨g, 10, none⟩ = some (.slice A n c) ∧ w'.cell? ⟨g + 1, 0, none⟩ = some (.int .i64 q.src) ∧ w'.cell? ⟨g + 1, 1, none⟩ = some (.int .i64 q.dst) ∧ w'.cell? ⟨g + 1, 2, none⟩ = some (.int .i64 q.sport) ∧ w'.cell? ⟨g + 1, 3, none⟩ = some (.int .i64 q.dport) ∧ w'.cell? ⟨g + 1, 4, none⟩ = some (.int .u32 q.seq) ∧ w'.cell? ⟨g + 1, 5, none⟩ = some (.int .u32 q.ack) ∧ w'.cell? ⟨g + 1, 6, none⟩ = some (.int .i64 q.flags) ∧ w'.cell? ⟨g + 1, 7, none⟩ = some (.int .i64 q.window) ∧ w'.cell? ⟨g + 1, 8, none⟩ = some (.int .i64 q.probe) ∧ w'.cell? ⟨g + 1, 9, none⟩ = some (.int .i64 q.origin) ∧ w'.cell? ⟨g + 1, 10, none⟩ = some (.slice A2 m d) ∧ Below W.heap.size W w')
              (first | exact HD.out _ k0 | exact HD.out _ k8 | exact HD.out _ k9 | fail)
              (first
                | (go_at_call 17; refine HEQ.out.mono ?_; rintro e w' ⟨rfl, rfl⟩)
                | (go_at_call 20; refine (HSM.out _ k0).mono ?_; rintro e w8 ⟨rfl, hb8⟩; have k8 := k0.trans (hb8.mono k0.size))
                | (go_at_call 13; refine (awake_any _).mono ?_; rintro e w9 ⟨rfl, hb9⟩; have k9 := k8.trans (hb9.mono k8.size))
                | fail)
            all_goals
              go_wp2_with fail
              go_ret
              exact ⟨rfl, HB.out.trans (k9.mono HB.out.size)⟩
        · have HPUT3 : Hid (∀ w1, Below W.heap.size W w1 → Calls Try.prog 15 #[pkV q A2 m d] w1 fun e w' => ∃ A N c, e = .returned (.tuple #[.slice A N c, .int .i64 40]) ∧ Ow w' w1.heap.size 5 A N c (bv (putR q)) ∧ Below w1.heap.size w1 w') := fun w1 hb => by
            have := HPUT2.out w1 hb
            rw [chk_no hok2] at this
            exact this
          clear hok2
          go_enter Try.func12, Try.ntmps12
          go_upto_region 1 with fail
          have hW2 : (w.alloc (.cells #[.int .i64 p.src, .int .i64 p.dst, .int .i64 p.sport, .int .i64 p.dport, .int .u32 p.seq, .int .u32 p.ack, .int .i64 p.flags, .int .i64 p.window, .int .i64 p.probe, .int .i64 p.origin, .slice A n c] 25)).alloc (.cells #[.int .i64 q.src, .int .i64 q.dst, .int .i64 q.sport, .int .i64 q.dport, .int .u32 q.seq, .int .u32 q.ack, .int .i64 q.flags, .int .i64 q.window, .int .i64 q.probe, .int .i64 q.origin, .slice A2 m d] 25) = W := HW.out.symm
          rw [hW2, ← HG.out]
          clear hW2
          go_wp2_with fail
          refine HPUT.out.mono ?_
          rintro e w1 ⟨B1, N1, C1, rfl, ho1, hb1⟩
          obtain ⟨c0, c1, c2, c3, c4, c5, c6, c7, c8, c9, c10, d0, d1, d2, d3, d4, d5, d6, d7, d8, d9, d10, _⟩ := HD.out w1 hb1
          go_wp2_with fail
          refine (HPUT3.out w1 hb1).mono ?_
          rintro e w2 ⟨B2, N2, C2, rfl, ho2, hb2⟩
          have hb02 : Below W.heap.size W w2 := hb1.trans (hb2.mono hb1.size)
          go_wp2_with fail
          refine (awake_any _).mono ?_
          rintro e w6 ⟨rfl, hb6⟩
          go_wp2
          go_ret
          exact ⟨rfl, HB.out.trans ((hb02.mono HB.out.size).trans (hb6.mono (Nat.le_trans HB.out.size hb02.size)))⟩
      · rw [chk_no hok] at hput
        have HPUT := Lib.hid hput
        clear hput hok
        obtain ⟨ec, hec⟩ : ∃ ec, ec = chk q := ⟨_, rfl⟩
        rw [← hec] at HPUT2
        clear hec
        go_enter Try.func12, Try.ntmps12
        go_upto_region 1 with fail
        have hW2 : (w.alloc (.cells #[.int .i64 p.src, .int .i64 p.dst, .int .i64 p.sport, .int .i64 p.dport, .int .u32 p.seq, .int .u32 p.ack, .int .i64 p.flags, .int .i64 p.window, .int .i64 p.probe, .int .i64 p.origin, .slice A n c] 25)).alloc (.cells #[.int .i64 q.src, .int .i64 q.dst, .int .i64 q.sport, .int .i64 q.dport, .int .u32 q.seq, .int .u32 q.ack, .int .i64 q.flags, .int .i64 q.window, .int .i64 q.probe, .int .i64 q.origin, .slice A2 m d] 25) = W := HW.out.symm
        rw [hW2, ← HG.out]
        clear hW2
        go_wp2_with fail
        refine HPUT.out.mono ?_
        rintro e w1 ⟨B1, N1, C1, rfl, ho1, hb1⟩
        obtain ⟨c0, c1, c2, c3, c4, c5, c6, c7, c8, c9, c10, d0, d1, d2, d3, d4, d5, d6, d7, d8, d9, d10, _⟩ := HD.out w1 hb1
        go_wp2_with fail
        refine (HPUT2.out w1 hb1).mono ?_
        rintro e w2 ⟨B2, N2, C2, rfl, ho2, hb2⟩
        have hb02 : Below W.heap.size W w2 := hb1.trans (hb2.mono hb1.size)
        go_wp2_with fail
        refine (awake_any _).mono ?_
        rintro e w6 ⟨rfl, hb6⟩
        go_wp2
        go_ret
        exact ⟨rfl, HB.out.trans ((hb02.mono HB.out.size).trans (hb6.mono (Nat.le_trans HB.out.size hb02.size)))⟩
end Go.Proofs.Ytcdfkcbjididgaa.packetApartDone
namespace Go.Proofs.Ytcdfkcbjididgaa.packetApartDone
open Go.ChangeShapes Go.WideShapes Go.ChangeAt Go.RowKit Mem SM lib sum PM pk
set_option linter.unusedVariables false
theorem own : ownKnob Try.prog.godebug = none := by kernel_rfl
theorem laidOut : laidOutB Try.prog = true := by kernel_rfl
set_option maxRecDepth 100000 in
theorem lifted (os : Os) (started : os.Started) (H : Type) (enc : TypeId × Value → H) :
    ReturnsInHanded {} Try.checked os 12 .any (Rows.packetApartSpec.pre6 enc Try.prog Try.f12 Rows.packetApartRow.domain false) (Rows.packetApartSpec.post enc Try.prog Try.f12 false true false false) := by
  refine returnsInHanded_of_change (C := Try.checked) own started (by kernel_rfl) Try.func12
    (ChangeSpec.witness6 (enc := enc) (C := Try.checked) false ⟨#[], #[.agg #[.int .i64 0, .int .i64 0, .int .i64 0, .int .i64 0, .int .u32 0, .int .u32 0, .int .i64 0, .int .i64 0, .int .i64 0, .int .i64 0, .slice none 0 0], .agg #[.int .i64 0, .int .i64 0, .int .i64 0, .int .i64 0, .int .u32 0, .int .u32 0, .int .i64 0, .int .i64 0, .int .i64 0, .int .i64 0, .slice none 0 0]], []⟩ 8 (by kernel_rfl) (by kernel_rfl) (by kernel_rfl) (by kernel_rfl)) ?_
  intro W base args ds gs before hval0 hW hcnd _
  have hval : ∀ (j : Nat) t v, Try.f12.params[j]? = some t → args[j]? = some v → Value.okWide Try.prog W .any base t v := hval0
  have hW' := hW
  obtain ⟨p, q, hA0, hV, rfl, hfz, hnd⟩ := hW
  have hA : DataW.TrodAll enc Try.prog W 0 (fun _ => true) true Try.f12.params.toList args.toList ds p := hA0
  rw [Try.params12] at hA hval
  obtain ⟨v0, vs0, d0, ds0, p0, q0, hargs, rfl, rfl, h0, r0⟩ := trodAll_cons hA
  obtain ⟨v1, vs1, d1, ds1, p1, q1, rfl, rfl, rfl, h1, r1⟩ := trodAll_cons r0
  obtain ⟨rfl, rfl, rfl⟩ := trodAll_nil r1
  obtain rfl : args = #[v0, v1] := by cases args; simp_all
  obtain ⟨rfl, rfl⟩ := trodVars_none hV
  have k0 := h0
  have lt0 : ∀ x ∈ p0, x.block < W.heap.size := by obtain ⟨m, hm⟩ := k0; exact DataW.trod_lt m _ _ _ hm
  obtain ⟨P0, A0, n0, c0, rfl, w0, m0, b0, u0⟩ := open_pk (hval 0 25 v0 rfl rfl) h0
  have k1 := h1
  have lt1 : ∀ x ∈ p1, x.block < W.heap.size := by obtain ⟨m, hm⟩ := k1; exact DataW.trod_lt m _ _ _ hm
  obtain ⟨P1, A1, n1, c1, rfl, w1, m1, b1, u1⟩ := open_pk (hval 1 25 v1 rfl rfl) h1
  clear hA0 hval0
  refine (walk P0 A0 n0 c0 P1 A1 n1 c1 W w0 m0 b0 u0 w1 m1 b1 u1).mono fun e W' ⟨he, bel⟩ => ?_
  subst he
  exact ⟨_, rfl, _, _, _, [], _, [], hW', trodAll_mk1 (shut_bool Try.underlying4 _), (trodAll_cons_mk (Below.trod laidOut (by kernel_rfl) (of_decide_eq_true (by kernel_rfl)) k0 bel lt0) (trodAll_cons_mk (Below.trod laidOut (by kernel_rfl) (of_decide_eq_true (by kernel_rfl)) k1 bel lt1) trodAll_mk0)), rfl, bel.frame _, fun h => by cases h⟩

theorem over : Rows.packetApartRow.holds Try.pinned (OpenSpec.ofChange Rows.packetApartSpec) :=
  OpenClaim.holds_of_wide 12 Try.f12 rfl rfl rfl rfl rfl rfl rfl ⟨rfl, rfl, rfl, rfl, rfl⟩ rfl rfl rfl rfl rfl (by kernel_rfl) Try.func12 (by kernel_rfl)
    (of_decide_eq_true (by kernel_rfl)) (by unfold Func.isWrapper; first | (rw [if_pos (by decide +kernel)]; kernel_rfl) | (rw [if_neg (by decide +kernel)]; exact ⟨rfl, rfl⟩))
    (fun os started H enc _ => lifted os started H enc)
/-- the given statement -/
theorem proved : Rows.PacketApartSaid := over
#print axioms proved
end Go.Proofs.Ytcdfkcbjididgaa.packetApartDone
