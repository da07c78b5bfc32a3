/- PacketRefused: for every input the law answers true and leaves its arguments as they were. -/
import Derived.Test.YtjpdamighffgfaaRows
import Derived.Test.YtjpdamighffgfaaPkO
import Derived.Test.YtjpdamighffgfaaPkQ
import Derived.ProofKit
import Derived.OpenShut
import Derived.ShutString
import Derived.ChangeOld
namespace Go.Proofs.Ytjpdamighffgfaa.packetRefusedDone
open Go.RowKit Mem SM lib sum PM pk
set_option linter.unusedVariables false
theorem ref_chk (p : Pk) (s a : Int) (h : okP p) : okP (refP p s a 10) := by
  unfold okP refP at *
  simp only [List.length_nil]
  omega
theorem takes_ge (p : Pk) : 0 ≤ takes p := by
  unfold takes
  cases fl p.flags 0 <;> cases fl p.flags 2 <;> simp <;> omega
theorem refuse_ack (p : Pk) : IntKind.u32.wrap ((p.seq + takes p) % 4294967296 - p.seq) = IntKind.u32.wrap (takes p) := by
  rw [wrap_u32, wrap_u32]
  omega
theorem fl10 : fl 10 3 = true := by decide
theorem fl0 : fl 0 3 = false := by decide
set_option maxRecDepth 50000 in
set_option maxHeartbeats 16000000 in
theorem walk (p : Pk) (A : Option Addr) (n c : Nat) (w : World) (h : Rd w w.heap.size A n (bv p.data)) (hc : n ≤ c) (hn : n ≤ 9223372036854775807) (hu : u32P p) :
    Calls Try.prog 11 #[pkV p A n c] w fun e w' => e = .returned (.bool true) ∧ Below w.heap.size w w' := by
  have hlen : n = p.data.length := by rw [← bv_len, h.len]
  obtain ⟨W, hW⟩ : ∃ W, W = w.alloc (pkO p A n c) := ⟨_, rfl⟩
  obtain ⟨g, hg⟩ : ∃ g, g = w.heap.size := ⟨_, rfl⟩
  have hP : PkAt W g p A n c := by rw [hW, hg]; exact PkAt.new _ _ _ _ _
  have hs : W.heap.size = g + 1 := by rw [hW, hg]; simp
  have hb0 : Below w.heap.size w W := by rw [hW]; exact (Below.refl _ _).alloc (Nat.le_refl _) _
  have HP := Lib.hid hP
  have HW := Lib.hid hW
  have HG := Lib.hid hg
  have HS := Lib.hid hs
  obtain ⟨c0, c1, c2, c3, c4, c5, c6, c7, c8, c9, c10⟩ := hP
  unfold pkV
  by_cases hbig : 16384 < n
  · clear hW hg hlen hs
    go_enter Try.func11, Try.ntmps11
    go_upto_region 1 with fail
    have hW2 : w.alloc (.cells #[.int .i64 p.src, .int .i64 p.dst, .int .i64 p.sport, .int .i64 p.dport, .int .u32 p.seq, .int .u32 p.ack, .int .i64 p.flags, .int .i64 p.window, .int .i64 p.probe, .int .i64 p.origin, .slice A n c] 25) = W := HW.out.symm
    rw [hW2, ← HG.out]
    clear hW2
    go_wp2_with fail
    refine (awake_any _).mono ?_
    rintro e w1 ⟨rfl, hb1⟩
    go_wp2
    go_ret
    exact ⟨rfl, hb0.trans (hb1.mono hb0.size)⟩
  · cases f3 : fl p.flags 3
    · -- nobody refused it yet
      obtain ⟨SQ, hSQ⟩ : ∃ x, (if fl p.flags 1 then p.ack else 0) = x := ⟨_, rfl⟩
      obtain ⟨AK, hAK⟩ : ∃ x, (p.seq + takes p) % 4294967296 = x := ⟨_, rfl⟩
      obtain ⟨T, hT⟩ : ∃ T, takes p = T := ⟨_, rfl⟩
      obtain ⟨Zz, hZ⟩ : ∃ z, IntKind.u32.wrap T = z := ⟨_, rfl⟩
      have hz1 : IntKind.u32.wrap (AK - p.seq) = Zz := by rw [← hZ, ← hAK, ← hT]; exact refuse_ack p
      have hQ : refuseP p = refP p SQ AK 10 := by unfold refuseP; rw [f3, if_neg (by simp), hSQ, hAK]
      have hQQ : refuseP (refP p SQ AK 10) = Pk.none := by unfold refuseP; exact if_pos fl10
      have hqu : u32P (refP p SQ AK 10) := by
        refine ⟨?_, ?_⟩
        · show 0 ≤ SQ ∧ SQ < 4294967296
          have := hu.2
          rw [← hSQ]
          cases fl p.flags 1 <;> simp <;> omega
        · show 0 ≤ AK ∧ AK < 4294967296
          omega
      have hrf : ∀ w1, Calls Try.prog 23 #[.agg #[.int .i64 p.src, .int .i64 p.dst, .int .i64 p.sport, .int .i64 p.dport, .int .u32 p.seq, .int .u32 p.ack, .int .i64 p.flags, .int .i64 p.window, .int .i64 p.probe, .int .i64 p.origin, .slice A n c]] w1 fun e w' => e = .returned (.tuple #[.agg #[.int .i64 p.dst, .int .i64 p.src, .int .i64 p.dport, .int .i64 p.sport, .int .u32 SQ, .int .u32 AK, .int .i64 10, .int .i64 0, .int .i64 0, .int .i64 0, .slice none 0 0], .bool true]) ∧ Below w1.heap.size w1 w' := fun w1 => by
        have := refuse_any p A n c w1 hlen (by omega) hu
        unfold RefPost at this
        rw [hQ, f3] at this
        exact this
      have hrq : ∀ w1, Calls Try.prog 23 #[.agg #[.int .i64 p.dst, .int .i64 p.src, .int .i64 p.dport, .int .i64 p.sport, .int .u32 SQ, .int .u32 AK, .int .i64 10, .int .i64 0, .int .i64 0, .int .i64 0, .slice none 0 0]] w1 fun e w' => e = .returned (.tuple #[.agg #[.int .i64 0, .int .i64 0, .int .i64 0, .int .i64 0, .int .u32 0, .int .u32 0, .int .i64 0, .int .i64 0, .int .i64 0, .int .i64 0, .slice none 0 0], .bool false]) ∧ Below w1.heap.size w1 w' := fun w1 => by
        have := refuse_any (refP p SQ AK 10) none 0 0 w1 rfl (by omega) hqu
        unfold RefPost at this
        rw [hQQ, show fl (refP p SQ AK 10).flags 3 = true from fl10] at this
        exact this
      have htk : ∀ w1, Calls Try.prog 25 #[.agg #[.int .i64 p.src, .int .i64 p.dst, .int .i64 p.sport, .int .i64 p.dport, .int .u32 p.seq, .int .u32 p.ack, .int .i64 p.flags, .int .i64 p.window, .int .i64 p.probe, .int .i64 p.origin, .slice A n c]] w1 fun e w' => e = .returned (.int .i64 T) ∧ Below w1.heap.size w1 w' := fun w1 => by
        have := takes_any p A n c w1 hlen (by omega)
        rw [hT] at this
        exact this
      have hcp : ∀ w1, Calls Try.prog 18 #[.agg #[.int .i64 p.src, .int .i64 p.dst, .int .i64 p.sport, .int .i64 p.dport, .int .u32 p.seq, .int .u32 p.ack, .int .i64 p.flags, .int .i64 p.window, .int .i64 p.probe, .int .i64 p.origin, .slice A n c]] w1 fun e w' => e = .returned (.int .i64 (chk p)) ∧ Below w1.heap.size w1 w' := fun w1 => check_any p A n c w1 hlen (by omega)
      have hcq : okP p → ∀ w1, Calls Try.prog 18 #[.agg #[.int .i64 p.dst, .int .i64 p.src, .int .i64 p.dport, .int .i64 p.sport, .int .u32 SQ, .int .u32 AK, .int .i64 10, .int .i64 0, .int .i64 0, .int .i64 0, .slice none 0 0]] w1 fun e w' => e = .returned (.int .i64 0) ∧ Below w1.heap.size w1 w' := fun hok w1 => by
        have := check_any (refP p SQ AK 10) none 0 0 w1 rfl (by omega)
        rw [chk_ok (ref_chk p SQ AK hok)] at this
        exact this
      have HRF := Lib.hid hrf
      have HRQ := Lib.hid hrq
      have HTK := Lib.hid htk
      have HCP := Lib.hid hcp
      have HCQ := Lib.hid hcq
      clear hrf hrq htk hcp hcq hQ hQQ hqu hSQ hAK hT hlen hW hg hs f3
      by_cases hok : okP p
      · obtain ⟨C, hC⟩ : ∃ C, chk p = C := ⟨_, rfl⟩
        rw [hC] at HCP
        have hC0 : C = 0 := by rw [← hC]; exact chk_ok hok
        subst hC0
        have HOK := Lib.hid hok
        clear hC hok
        go_enter Try.func11, Try.ntmps11
        go_upto_region 1 with fail
        have hW2 : w.alloc (.cells #[.int .i64 p.src, .int .i64 p.dst, .int .i64 p.sport, .int .i64 p.dport, .int .u32 p.seq, .int .u32 p.ack, .int .i64 p.flags, .int .i64 p.window, .int .i64 p.probe, .int .i64 p.origin, .slice A n c] 25) = W := HW.out.symm
        rw [hW2, ← HG.out]
        clear hW2
        go_wp2_with fail
        refine (HRF.out W).mono ?_
        rintro e w1 ⟨rfl, hb1⟩
        have hz1w := hb1.size
        have HP1 := Lib.hid (HP.out.below hb1 (by rw [HS.out]; omega))
        clear c0 c1 c2 c3 c4 c5 c6 c7 c8 c9 c10
        obtain ⟨c0, c1, c2, c3, c4, c5, c6, c7, c8, c9, c10⟩ := HP1.out
        go_upto_region 4 with fail
        obtain ⟨V, hV⟩ : ∃ V, V = w1.alloc (pkO (refP p SQ AK 10) none 0 0) := ⟨_, rfl⟩
        obtain ⟨g1, hg1⟩ : ∃ g1, g1 = w1.heap.size := ⟨_, rfl⟩
        have hV2 : w1.alloc (.cells #[.int .i64 p.dst, .int .i64 p.src, .int .i64 p.dport, .int .i64 p.sport, .int .u32 SQ, .int .u32 AK, .int .i64 10, .int .i64 0, .int .i64 0, .int .i64 0, .slice none 0 0] 25) = V := hV.symm
        rw [hV2, ← hg1]
        have hbV : Below w1.heap.size w1 V := by rw [hV]; exact (Below.refl _ _).alloc (Nat.le_refl _) _
        have hsV : V.heap.size = g1 + 1 := by rw [hV, hg1]; simp
        have HD1 := Lib.hid (show PkAt V g1 (refP p SQ AK 10) none 0 0 by rw [hV, hg1]; exact PkAt.new _ _ _ _ _)
        have hgg : g < w1.heap.size := by rw [HS.out] at hz1w; omega
        have HPV := Lib.hid (HP1.out.below hbV hgg)
        have hg1w : g1 < V.heap.size := by omega
        have hgV : w1.heap.size ≤ V.heap.size := hbV.size
        clear hg1 hsV hV2 hV c0 c1 c2 c3 c4 c5 c6 c7 c8 c9 c10
        have d0 : V.cell? ⟨g1, 0, none⟩ = some (.int .i64 p.dst) := HD1.out.c0
        have d1 : V.cell? ⟨g1, 1, none⟩ = some (.int .i64 p.src) := HD1.out.c1
        have d2 : V.cell? ⟨g1, 2, none⟩ = some (.int .i64 p.dport) := HD1.out.c2
        have d3 : V.cell? ⟨g1, 3, none⟩ = some (.int .i64 p.sport) := HD1.out.c3
        have d4 : V.cell? ⟨g1, 4, none⟩ = some (.int .u32 SQ) := HD1.out.c4
        have d5 : V.cell? ⟨g1, 5, none⟩ = some (.int .u32 AK) := HD1.out.c5
        have d6 : V.cell? ⟨g1, 6, none⟩ = some (.int .i64 10) := HD1.out.c6
        have d7 : V.cell? ⟨g1, 7, none⟩ = some (.int .i64 0) := HD1.out.c7
        have d8 : V.cell? ⟨g1, 8, none⟩ = some (.int .i64 0) := HD1.out.c8
        have d9 : V.cell? ⟨g1, 9, none⟩ = some (.int .i64 0) := HD1.out.c9
        have d10 : V.cell? ⟨g1, 10, none⟩ = some (.slice none 0 0) := HD1.out.c10
        go_wp2_with fail
        refine (HRQ.out V).mono ?_
        rintro e w2 ⟨rfl, hb2⟩
        have hz2 := hb2.size
        have HP2 := Lib.hid (HPV.out.below hb2 (by omega))
        have HD2 := Lib.hid (HD1.out.below hb2 (by omega))
        clear d0 d1 d2 d3 d4 d5 d6 d7 d8 d9 d10
        go_upto_region 5 with fail
        obtain ⟨U, hU⟩ : ∃ U, U = w2.alloc (.cells #[.int .i64 0, .int .i64 0, .int .i64 0, .int .i64 0, .int .u32 0, .int .u32 0, .int .i64 0, .int .i64 0, .int .i64 0, .int .i64 0, .slice none 0 0] 25) := ⟨_, rfl⟩
        rw [← hU]
        have hbU : Below w2.heap.size w2 U := by rw [hU]; exact (Below.refl _ _).alloc (Nat.le_refl _) _
        have hP3 := HP2.out.below hbU (by omega)
        have hD13 := HD2.out.below hbU (by omega)
        have hUs := hbU.size
        have hbwU : Below w.heap.size w U := hb0.trans ((hb1.trans ((hbV.mono hz1w).trans ((hb2.mono (by omega)).trans (hbU.mono (by omega))))).mono hb0.size)
        have HD : Hid (∀ w', Below U.heap.size U w' → w'.cell? ⟨g, 0, none⟩ = some (.int .i64 p.src) ∧ w'.cell? ⟨g, 1, none⟩ = some (.int .i64 p.dst) ∧ w'.cell? ⟨g, 2, none⟩ = some (.int .i64 p.sport) ∧ w'.cell? ⟨g, 3, none⟩ = some (.int .i64 p.dport) ∧ w'.cell? ⟨g, 4, none⟩ = some (.int .u32 p.seq) ∧ w'.cell? ⟨g, 5, none⟩ = some (.int .u32 p.ack) ∧ w'.cell? ⟨g, 6, none⟩ = some (.int .i64 p.flags) ∧ w'.cell? ⟨g, 7, none⟩ = some (.int .i64 p.window) ∧ w'.cell? ⟨g, 8, none⟩ = some (.int .i64 p.probe) ∧ w'.cell? ⟨g, 9, none⟩ = some (.int .i64 p.origin) ∧ w'.cell? ⟨g, 10, none⟩ = some (.slice A n c) ∧ w'.cell? ⟨g1, 0, none⟩ = some (.int .i64 p.dst) ∧ w'.cell? ⟨g1, 1, none⟩ = some (.int .i64 p.src) ∧ w'.cell? ⟨g1, 2, none⟩ = some (.int .i64 p.dport) ∧ w'.cell? ⟨g1, 3, none⟩ = some (.int .i64 p.sport) ∧ w'.cell? ⟨g1, 4, none⟩ = some (.int .u32 SQ) ∧ w'.cell? ⟨g1, 5, none⟩ = some (.int .u32 AK) ∧ w'.cell? ⟨g1, 6, none⟩ = some (.int .i64 10) ∧ w'.cell? ⟨g1, 7, none⟩ = some (.int .i64 0) ∧ w'.cell? ⟨g1, 8, none⟩ = some (.int .i64 0) ∧ w'.cell? ⟨g1, 9, none⟩ = some (.int .i64 0) ∧ w'.cell? ⟨g1, 10, none⟩ = some (.slice none 0 0) ∧ Below U.heap.size U w') := Lib.hid (fun w' hb => by
          have e1 := hP3.below hb (by omega)
          have e2 := hD13.below hb (by omega)
          exact ⟨e1.c0, e1.c1, e1.c2, e1.c3, e1.c4, e1.c5, e1.c6, e1.c7, e1.c8, e1.c9, e1.c10, e2.c0, e2.c1, e2.c2, e2.c3, e2.c4, e2.c5, e2.c6, e2.c7, e2.c8, e2.c9, e2.c10, hb⟩)
        have k0 : Below U.heap.size U U.drew := below_drew (Below.refl _ _)
        have hbs : w.heap.size ≤ U.heap.size := hbwU.size
        clear hU hP3 hD13
        go_upto_region 7 with fail
        go_region_held3 (fun w' => w'.cell? ⟨g, 0, none⟩ = some (.int .i64 p.src) ∧ w'.cell? ⟨g, 1, none⟩ = some (.int .i64 p.dst) ∧ w'.cell? ⟨g, 2, none⟩ = some (.int .i64 p.sport) ∧ w'.cell? ⟨g, 3, none⟩ = some (.int .i64 p.dport) ∧ w'.cell? ⟨g, 4, none⟩ = some (.int .u32 p.seq) ∧ w'.cell? ⟨g, 5, none⟩ = some (.int .u32 p.ack) ∧ w'.cell? ⟨g, 6, none⟩ = some (.int .i64 p.flags) ∧ w'.cell? ⟨g, 7, none⟩ = some (.int .i64 p.window) ∧ w'.cell? ⟨g, 8, none⟩ = some (.int .i64 p.probe) ∧ w'.cell? ⟨g, 9, none⟩ = some (.int .i64 p.origin) ∧ w'.cell? ⟨g, 10, none⟩ = some (.slice A n c) ∧ w'.cell? ⟨g1, 0, none⟩ = some (.int .i64 p.dst) ∧ w'.cell? ⟨g1, 1, none⟩ = some (.int .i64 p.src) ∧ w'.cell? ⟨g1, 2, none⟩ = some (.int .i64 p.dport) ∧ w'.cell? ⟨g1, 3, none⟩ = some (.int .i64 p.sport) ∧ w'.cell? ⟨g1, 4, none⟩ = some (.int .u32 SQ) ∧ w'.cell? ⟨g1, 5, none⟩ = some (.int .u32 AK) ∧ w'.cell? ⟨g1, 6, none⟩ = some (.int .i64 10) ∧ w'.cell? ⟨g1, 7, none⟩ = some (.int .i64 0) ∧ w'.cell? ⟨g1, 8, none⟩ = some (.int .i64 0) ∧ w'.cell? ⟨g1, 9, none⟩ = some (.int .i64 0) ∧ w'.cell? ⟨g1, 10, none⟩ = some (.slice none 0 0) ∧ Below U.heap.size U w')
          (first | exact HD.out _ k0 | exact HD.out _ k1 | exact HD.out _ k2 | exact HD.out _ k3 | exact HD.out _ k4 | fail)
          (first
            | (go_at_call 25; refine (HTK.out _).mono ?_; rintro e x1 ⟨rfl, hx1⟩; have k1 := k0.trans (hx1.mono k0.size))
            | (go_at_call 18; with_reducible refine (HCP.out _).mono ?_; rintro e x2 ⟨rfl, hx2⟩; have k2 := k1.trans (hx2.mono k1.size))
            | (go_at_call 18; with_reducible refine (HCQ.out HOK.out _).mono ?_; rintro e x3 ⟨rfl, hx3⟩; have k3 := k2.trans (hx3.mono k2.size))
            | (go_at_call 13; refine (awake_any _).mono ?_; rintro e x4 ⟨rfl, hx4⟩; have k4 := k3.trans (hx4.mono k3.size))
            | fail)
        all_goals
          go_wp2_with fail
          go_ret
          exact ⟨rfl, hbwU.trans (k4.mono hbwU.size)⟩
      · obtain ⟨C, hC⟩ : ∃ C, chk p = C := ⟨_, rfl⟩
        rw [hC] at HCP
        have hC0 : C = 40 := by rw [← hC]; exact chk_no hok
        subst hC0
        have HOK := Lib.hid hok
        clear hC hok
        go_enter Try.func11, Try.ntmps11
        go_upto_region 1 with fail
        have hW2 : w.alloc (.cells #[.int .i64 p.src, .int .i64 p.dst, .int .i64 p.sport, .int .i64 p.dport, .int .u32 p.seq, .int .u32 p.ack, .int .i64 p.flags, .int .i64 p.window, .int .i64 p.probe, .int .i64 p.origin, .slice A n c] 25) = W := HW.out.symm
        rw [hW2, ← HG.out]
        clear hW2
        go_wp2_with fail
        refine (HRF.out W).mono ?_
        rintro e w1 ⟨rfl, hb1⟩
        have hz1w := hb1.size
        have HP1 := Lib.hid (HP.out.below hb1 (by rw [HS.out]; omega))
        clear c0 c1 c2 c3 c4 c5 c6 c7 c8 c9 c10
        obtain ⟨c0, c1, c2, c3, c4, c5, c6, c7, c8, c9, c10⟩ := HP1.out
        go_upto_region 4 with fail
        obtain ⟨V, hV⟩ : ∃ V, V = w1.alloc (pkO (refP p SQ AK 10) none 0 0) := ⟨_, rfl⟩
        obtain ⟨g1, hg1⟩ : ∃ g1, g1 = w1.heap.size := ⟨_, rfl⟩
        have hV2 : w1.alloc (.cells #[.int .i64 p.dst, .int .i64 p.src, .int .i64 p.dport, .int .i64 p.sport, .int .u32 SQ, .int .u32 AK, .int .i64 10, .int .i64 0, .int .i64 0, .int .i64 0, .slice none 0 0] 25) = V := hV.symm
        rw [hV2, ← hg1]
        have hbV : Below w1.heap.size w1 V := by rw [hV]; exact (Below.refl _ _).alloc (Nat.le_refl _) _
        have hsV : V.heap.size = g1 + 1 := by rw [hV, hg1]; simp
        have HD1 := Lib.hid (show PkAt V g1 (refP p SQ AK 10) none 0 0 by rw [hV, hg1]; exact PkAt.new _ _ _ _ _)
        have hgg : g < w1.heap.size := by rw [HS.out] at hz1w; omega
        have HPV := Lib.hid (HP1.out.below hbV hgg)
        have hg1w : g1 < V.heap.size := by omega
        have hgV : w1.heap.size ≤ V.heap.size := hbV.size
        clear hg1 hsV hV2 hV c0 c1 c2 c3 c4 c5 c6 c7 c8 c9 c10
        have d0 : V.cell? ⟨g1, 0, none⟩ = some (.int .i64 p.dst) := HD1.out.c0
        have d1 : V.cell? ⟨g1, 1, none⟩ = some (.int .i64 p.src) := HD1.out.c1
        have d2 : V.cell? ⟨g1, 2, none⟩ = some (.int .i64 p.dport) := HD1.out.c2
        have d3 : V.cell? ⟨g1, 3, none⟩ = some (.int .i64 p.sport) := HD1.out.c3
        have d4 : V.cell? ⟨g1, 4, none⟩ = some (.int .u32 SQ) := HD1.out.c4
        have d5 : V.cell? ⟨g1, 5, none⟩ = some (.int .u32 AK) := HD1.out.c5
        have d6 : V.cell? ⟨g1, 6, none⟩ = some (.int .i64 10) := HD1.out.c6
        have d7 : V.cell? ⟨g1, 7, none⟩ = some (.int .i64 0) := HD1.out.c7
        have d8 : V.cell? ⟨g1, 8, none⟩ = some (.int .i64 0) := HD1.out.c8
        have d9 : V.cell? ⟨g1, 9, none⟩ = some (.int .i64 0) := HD1.out.c9
        have d10 : V.cell? ⟨g1, 10, none⟩ = some (.slice none 0 0) := HD1.out.c10
        go_wp2_with fail
        refine (HRQ.out V).mono ?_
        rintro e w2 ⟨rfl, hb2⟩
        have hz2 := hb2.size
        have HP2 := Lib.hid (HPV.out.below hb2 (by omega))
        have HD2 := Lib.hid (HD1.out.below hb2 (by omega))
        clear d0 d1 d2 d3 d4 d5 d6 d7 d8 d9 d10
        go_upto_region 5 with fail
        obtain ⟨U, hU⟩ : ∃ U, U = w2.alloc (.cells #[.int .i64 0, .int .i64 0, .int .i64 0, .int .i64 0, .int .u32 0, .int .u32 0, .int .i64 0, .int .i64 0, .int .i64 0, .int .i64 0, .slice none 0 0] 25) := ⟨_, rfl⟩
        rw [← hU]
        have hbU : Below w2.heap.size w2 U := by rw [hU]; exact (Below.refl _ _).alloc (Nat.le_refl _) _
        have hP3 := HP2.out.below hbU (by omega)
        have hD13 := HD2.out.below hbU (by omega)
        have hUs := hbU.size
        have hbwU : Below w.heap.size w U := hb0.trans ((hb1.trans ((hbV.mono hz1w).trans ((hb2.mono (by omega)).trans (hbU.mono (by omega))))).mono hb0.size)
        have HD : Hid (∀ w', Below U.heap.size U w' → w'.cell? ⟨g, 0, none⟩ = some (.int .i64 p.src) ∧ w'.cell? ⟨g, 1, none⟩ = some (.int .i64 p.dst) ∧ w'.cell? ⟨g, 2, none⟩ = some (.int .i64 p.sport) ∧ w'.cell? ⟨g, 3, none⟩ = some (.int .i64 p.dport) ∧ w'.cell? ⟨g, 4, none⟩ = some (.int .u32 p.seq) ∧ w'.cell? ⟨g, 5, none⟩ = some (.int .u32 p.ack) ∧ w'.cell? ⟨g, 6, none⟩ = some (.int .i64 p.flags) ∧ w'.cell? ⟨g, 7, none⟩ = some (.int .i64 p.window) ∧ w'.cell? ⟨g, 8, none⟩ = some (.int .i64 p.probe) ∧ w'.cell? ⟨g, 9, none⟩ = some (.int .i64 p.origin) ∧ w'.cell? ⟨g, 10, none⟩ = some (.slice A n c) ∧ w'.cell? ⟨g1, 0, none⟩ = some (.int .i64 p.dst) ∧ w'.cell? ⟨g1, 3, none⟩ = some (.int .i64 p.sport) ∧ w'.cell? ⟨g1, 5, none⟩ = some (.int .u32 AK) ∧ Below U.heap.size U w') := Lib.hid (fun w' hb => by
          have e1 := hP3.below hb (by omega)
          have e2 := hD13.below hb (by omega)
          exact ⟨e1.c0, e1.c1, e1.c2, e1.c3, e1.c4, e1.c5, e1.c6, e1.c7, e1.c8, e1.c9, e1.c10, e2.c0, e2.c3, e2.c5, hb⟩)
        have k0 : Below U.heap.size U U.drew := below_drew (Below.refl _ _)
        have hbs : w.heap.size ≤ U.heap.size := hbwU.size
        clear hU hP3 hD13
        go_upto_region 7 with fail
        refine wp_region_held_drew (S := (fun w' => w'.cell? ⟨g, 0, none⟩ = some (.int .i64 p.src) ∧ w'.cell? ⟨g, 1, none⟩ = some (.int .i64 p.dst) ∧ w'.cell? ⟨g, 2, none⟩ = some (.int .i64 p.sport) ∧ w'.cell? ⟨g, 3, none⟩ = some (.int .i64 p.dport) ∧ w'.cell? ⟨g, 4, none⟩ = some (.int .u32 p.seq) ∧ w'.cell? ⟨g, 5, none⟩ = some (.int .u32 p.ack) ∧ w'.cell? ⟨g, 6, none⟩ = some (.int .i64 p.flags) ∧ w'.cell? ⟨g, 7, none⟩ = some (.int .i64 p.window) ∧ w'.cell? ⟨g, 8, none⟩ = some (.int .i64 p.probe) ∧ w'.cell? ⟨g, 9, none⟩ = some (.int .i64 p.origin) ∧ w'.cell? ⟨g, 10, none⟩ = some (.slice A n c) ∧ w'.cell? ⟨g1, 0, none⟩ = some (.int .i64 p.dst) ∧ w'.cell? ⟨g1, 3, none⟩ = some (.int .i64 p.sport) ∧ w'.cell? ⟨g1, 5, none⟩ = some (.int .u32 AK) ∧ Below U.heap.size U w')) (by kernel_rfl) (HD.out _ k0) (fun hHeld => ?_)
        refine wpAnyH_take (i := 0) (oi := { dst := some 36, op := Op.move (Operand.tmp 6), type := 4, pos := "law.go:148", after := #[], guard := none }) (v := ?v0) rfl (by kernel_rfl) (by kernel_rfl) (by kernel_rfl) (fun _ _ _ h => h) (Or.inl ⟨by rfl, ?hy0⟩) (by assumption) ?rest0
        case hy0 => (intro w hSw; (try dsimp only at hSw); go_simp; try with_reducible rfl)
        (try simp only [Act.put, List.setIfInBounds_toArray, List.set_cons_zero, List.set_cons_succ])
        refine wpAnyH_take (i := 1) (oi := { dst := some 37, op := Op.unOp UnOp.not 4 (Operand.tmp 36), type := 4, pos := "law.go:148", after := #[{ on := 0, ground := Ground.data }], guard := none }) (v := ?v1) rfl (by kernel_rfl) (by kernel_rfl) (by kernel_rfl) (fun _ _ _ h => h) (Or.inl ⟨by rfl, ?hy1⟩) (by assumption) ?rest1
        case hy1 => (intro w hSw; (try dsimp only at hSw); go_simp; try with_reducible rfl)
        (try simp only [Act.put, List.setIfInBounds_toArray, List.set_cons_zero, List.set_cons_succ])
        refine wpAnyH_take (i := 2) (oi := { dst := some 38, op := Op.move (Operand.tmp 37), type := 4, pos := "law.go:148", after := #[{ on := 1, ground := Ground.data }], guard := none }) (v := ?v2) rfl (by kernel_rfl) (by kernel_rfl) (by kernel_rfl) (fun _ _ _ h => h) (Or.inl ⟨by rfl, ?hy2⟩) (by assumption) ?rest2
        case hy2 => (intro w hSw; (try dsimp only at hSw); go_simp; try with_reducible rfl)
        (try simp only [Act.put, List.setIfInBounds_toArray, List.set_cons_zero, List.set_cons_succ])
        refine wpAnyH_take (i := 3) (oi := { dst := some 39, op := Op.fieldAddr 25 (Operand.tmp 3) 0, type := 0, pos := "law.go:148", after := #[{ on := 2, ground := Ground.guard }], guard := some (2, true) }) (v := ?v3) rfl (by kernel_rfl) (by kernel_rfl) (by kernel_rfl) (fun _ _ _ h => h) (Or.inl ⟨by rfl, ?hy3⟩) (by assumption) ?rest3
        case hy3 => (intro w hSw; (try dsimp only at hSw); go_simp; try with_reducible rfl)
        (try simp only [Act.put, List.setIfInBounds_toArray, List.set_cons_zero, List.set_cons_succ])
        refine wpAnyH_take (i := 4) (oi := { dst := some 40, op := Op.load 3 (Operand.tmp 39), type := 3, pos := "law.go:148", after := #[{ on := 3, ground := Ground.data }, { on := 2, ground := Ground.guard }], guard := some (2, true) }) (v := ?v4) rfl (by kernel_rfl) (by kernel_rfl) (by kernel_rfl) (fun _ _ _ h => h) (Or.inl ⟨by rfl, ?hy4⟩) (by assumption) ?rest4
        case hy4 => (intro w hSw; (try dsimp only at hSw); go_simp; try with_reducible rfl)
        (try simp only [Act.put, List.setIfInBounds_toArray, List.set_cons_zero, List.set_cons_succ])
        refine wpAnyH_take (i := 5) (oi := { dst := some 41, op := Op.fieldAddr 25 (Operand.tmp 1) 1, type := 0, pos := "law.go:148", after := #[{ on := 2, ground := Ground.guard }], guard := some (2, true) }) (v := ?v5) rfl (by kernel_rfl) (by kernel_rfl) (by kernel_rfl) (fun _ _ _ h => h) (Or.inl ⟨by rfl, ?hy5⟩) (by assumption) ?rest5
        case hy5 => (intro w hSw; (try dsimp only at hSw); go_simp; try with_reducible rfl)
        (try simp only [Act.put, List.setIfInBounds_toArray, List.set_cons_zero, List.set_cons_succ])
        refine wpAnyH_take (i := 6) (oi := { dst := some 42, op := Op.load 3 (Operand.tmp 41), type := 3, pos := "law.go:148", after := #[{ on := 5, ground := Ground.data }, { on := 2, ground := Ground.guard }], guard := some (2, true) }) (v := ?v6) rfl (by kernel_rfl) (by kernel_rfl) (by kernel_rfl) (fun _ _ _ h => h) (Or.inl ⟨by rfl, ?hy6⟩) (by assumption) ?rest6
        case hy6 => (intro w hSw; (try dsimp only at hSw); go_simp; try with_reducible rfl)
        (try simp only [Act.put, List.setIfInBounds_toArray, List.set_cons_zero, List.set_cons_succ])
        refine wpAnyH_take (i := 7) (oi := { dst := some 43, op := Op.binOp BinOp.eql 3 (Operand.tmp 40) (Operand.tmp 42) 3, type := 4, pos := "law.go:148", after := #[{ on := 4, ground := Ground.data }, { on := 6, ground := Ground.data }, { on := 2, ground := Ground.guard }], guard := some (2, true) }) (v := ?v7) rfl (by kernel_rfl) (by kernel_rfl) (by kernel_rfl) (fun _ _ _ h => h) (Or.inl ⟨by rfl, ?hy7⟩) (by assumption) ?rest7
        case hy7 => (intro w hSw; (try dsimp only at hSw); go_simp; try with_reducible rfl)
        (try simp only [Act.put, List.setIfInBounds_toArray, List.set_cons_zero, List.set_cons_succ])
        refine wpAnyH_take (i := 8) (oi := { dst := some 44, op := Op.pick (Operand.tmp 38) (Operand.tmp 43) (Operand.const (Value.bool false)), type := 4, pos := "law.go:148", after := #[{ on := 2, ground := Ground.data }, { on := 7, ground := Ground.data }], guard := none }) (v := ?v8) rfl (by kernel_rfl) (by kernel_rfl) (by kernel_rfl) (fun _ _ _ h => h) (Or.inl ⟨by rfl, ?hy8⟩) (by assumption) ?rest8
        case hy8 => (intro w hSw; (try dsimp only at hSw); go_simp; try with_reducible rfl)
        (try simp only [Act.put, List.setIfInBounds_toArray, List.set_cons_zero, List.set_cons_succ])
        refine wpAnyH_take (i := 9) (oi := { dst := some 45, op := Op.move (Operand.tmp 44), type := 4, pos := "law.go:148", after := #[{ on := 8, ground := Ground.data }, { on := 2, ground := Ground.chain }], guard := none }) (v := ?v9) rfl (by kernel_rfl) (by kernel_rfl) (by kernel_rfl) (fun _ _ _ h => h) (Or.inl ⟨by rfl, ?hy9⟩) (by assumption) ?rest9
        case hy9 => (intro w hSw; (try dsimp only at hSw); go_simp; try with_reducible rfl)
        (try simp only [Act.put, List.setIfInBounds_toArray, List.set_cons_zero, List.set_cons_succ])
        refine wpAnyH_take (i := 10) (oi := { dst := some 46, op := Op.fieldAddr 25 (Operand.tmp 3) 3, type := 0, pos := "law.go:148", after := #[{ on := 9, ground := Ground.guard }], guard := some (9, true) }) (v := ?v10) rfl (by kernel_rfl) (by kernel_rfl) (by kernel_rfl) (fun _ _ _ h => h) (Or.inl ⟨by rfl, ?hy10⟩) (by assumption) ?rest10
        case hy10 => (intro w hSw; (try dsimp only at hSw); go_simp; try with_reducible rfl)
        (try simp only [Act.put, List.setIfInBounds_toArray, List.set_cons_zero, List.set_cons_succ])
        refine wpAnyH_take (i := 11) (oi := { dst := some 47, op := Op.load 3 (Operand.tmp 46), type := 3, pos := "law.go:148", after := #[{ on := 10, ground := Ground.data }, { on := 9, ground := Ground.guard }], guard := some (9, true) }) (v := ?v11) rfl (by kernel_rfl) (by kernel_rfl) (by kernel_rfl) (fun _ _ _ h => h) (Or.inl ⟨by rfl, ?hy11⟩) (by assumption) ?rest11
        case hy11 => (intro w hSw; (try dsimp only at hSw); go_simp; try with_reducible rfl)
        (try simp only [Act.put, List.setIfInBounds_toArray, List.set_cons_zero, List.set_cons_succ])
        refine wpAnyH_take (i := 12) (oi := { dst := some 48, op := Op.fieldAddr 25 (Operand.tmp 1) 2, type := 0, pos := "law.go:148", after := #[{ on := 9, ground := Ground.guard }], guard := some (9, true) }) (v := ?v12) rfl (by kernel_rfl) (by kernel_rfl) (by kernel_rfl) (fun _ _ _ h => h) (Or.inl ⟨by rfl, ?hy12⟩) (by assumption) ?rest12
        case hy12 => (intro w hSw; (try dsimp only at hSw); go_simp; try with_reducible rfl)
        (try simp only [Act.put, List.setIfInBounds_toArray, List.set_cons_zero, List.set_cons_succ])
        refine wpAnyH_take (i := 13) (oi := { dst := some 49, op := Op.load 3 (Operand.tmp 48), type := 3, pos := "law.go:148", after := #[{ on := 12, ground := Ground.data }, { on := 9, ground := Ground.guard }], guard := some (9, true) }) (v := ?v13) rfl (by kernel_rfl) (by kernel_rfl) (by kernel_rfl) (fun _ _ _ h => h) (Or.inl ⟨by rfl, ?hy13⟩) (by assumption) ?rest13
        case hy13 => (intro w hSw; (try dsimp only at hSw); go_simp; try with_reducible rfl)
        (try simp only [Act.put, List.setIfInBounds_toArray, List.set_cons_zero, List.set_cons_succ])
        refine wpAnyH_take (i := 14) (oi := { dst := some 50, op := Op.binOp BinOp.eql 3 (Operand.tmp 47) (Operand.tmp 49) 3, type := 4, pos := "law.go:148", after := #[{ on := 11, ground := Ground.data }, { on := 13, ground := Ground.data }, { on := 9, ground := Ground.guard }], guard := some (9, true) }) (v := ?v14) rfl (by kernel_rfl) (by kernel_rfl) (by kernel_rfl) (fun _ _ _ h => h) (Or.inl ⟨by rfl, ?hy14⟩) (by assumption) ?rest14
        case hy14 => (intro w hSw; (try dsimp only at hSw); go_simp; try with_reducible rfl)
        (try simp only [Act.put, List.setIfInBounds_toArray, List.set_cons_zero, List.set_cons_succ])
        refine wpAnyH_take (i := 15) (oi := { dst := some 51, op := Op.pick (Operand.tmp 45) (Operand.tmp 50) (Operand.const (Value.bool false)), type := 4, pos := "law.go:148", after := #[{ on := 9, ground := Ground.data }, { on := 14, ground := Ground.data }], guard := none }) (v := ?v15) rfl (by kernel_rfl) (by kernel_rfl) (by kernel_rfl) (fun _ _ _ h => h) (Or.inl ⟨by rfl, ?hy15⟩) (by assumption) ?rest15
        case hy15 => (intro w hSw; (try dsimp only at hSw); go_simp; try with_reducible rfl)
        (try simp only [Act.put, List.setIfInBounds_toArray, List.set_cons_zero, List.set_cons_succ])
        refine wpAnyH_take (i := 16) (oi := { dst := some 52, op := Op.move (Operand.tmp 51), type := 4, pos := "law.go:148", after := #[{ on := 15, ground := Ground.data }, { on := 9, ground := Ground.chain }], guard := none }) (v := ?v16) rfl (by kernel_rfl) (by kernel_rfl) (by kernel_rfl) (fun _ _ _ h => h) (Or.inl ⟨by rfl, ?hy16⟩) (by assumption) ?rest16
        case hy16 => (intro w hSw; (try dsimp only at hSw); go_simp; try with_reducible rfl)
        (try simp only [Act.put, List.setIfInBounds_toArray, List.set_cons_zero, List.set_cons_succ])
        refine wpAnyH_take (i := 17) (oi := { dst := some 53, op := Op.fieldAddr 25 (Operand.tmp 3) 5, type := 0, pos := "law.go:148", after := #[{ on := 16, ground := Ground.guard }], guard := some (16, true) }) (v := ?v17) rfl (by kernel_rfl) (by kernel_rfl) (by kernel_rfl) (fun _ _ _ h => h) (Or.inl ⟨by rfl, ?hy17⟩) (by assumption) ?rest17
        case hy17 => (intro w hSw; (try dsimp only at hSw); go_simp; try with_reducible rfl)
        (try simp only [Act.put, List.setIfInBounds_toArray, List.set_cons_zero, List.set_cons_succ])
        refine wpAnyH_take (i := 18) (oi := { dst := some 54, op := Op.load 22 (Operand.tmp 53), type := 22, pos := "law.go:148", after := #[{ on := 17, ground := Ground.data }, { on := 16, ground := Ground.guard }], guard := some (16, true) }) (v := ?v18) rfl (by kernel_rfl) (by kernel_rfl) (by kernel_rfl) (fun _ _ _ h => h) (Or.inl ⟨by rfl, ?hy18⟩) (by assumption) ?rest18
        case hy18 => (intro w hSw; (try dsimp only at hSw); go_simp; try with_reducible rfl)
        (try simp only [Act.put, List.setIfInBounds_toArray, List.set_cons_zero, List.set_cons_succ])
        refine wpAnyH_take (i := 19) (oi := { dst := some 55, op := Op.fieldAddr 25 (Operand.tmp 1) 4, type := 0, pos := "law.go:148", after := #[{ on := 16, ground := Ground.guard }], guard := some (16, true) }) (v := ?v19) rfl (by kernel_rfl) (by kernel_rfl) (by kernel_rfl) (fun _ _ _ h => h) (Or.inl ⟨by rfl, ?hy19⟩) (by assumption) ?rest19
        case hy19 => (intro w hSw; (try dsimp only at hSw); go_simp; try with_reducible rfl)
        (try simp only [Act.put, List.setIfInBounds_toArray, List.set_cons_zero, List.set_cons_succ])
        refine wpAnyH_take (i := 20) (oi := { dst := some 56, op := Op.load 22 (Operand.tmp 55), type := 22, pos := "law.go:148", after := #[{ on := 19, ground := Ground.data }, { on := 16, ground := Ground.guard }], guard := some (16, true) }) (v := ?v20) rfl (by kernel_rfl) (by kernel_rfl) (by kernel_rfl) (fun _ _ _ h => h) (Or.inl ⟨by rfl, ?hy20⟩) (by assumption) ?rest20
        case hy20 => (intro w hSw; (try dsimp only at hSw); go_simp; try with_reducible rfl)
        (try simp only [Act.put, List.setIfInBounds_toArray, List.set_cons_zero, List.set_cons_succ])
        refine wpAnyH_take (i := 21) (oi := { dst := some 57, op := Op.binOp BinOp.sub 22 (Operand.tmp 54) (Operand.tmp 56) 22, type := 22, pos := "law.go:148", after := #[{ on := 18, ground := Ground.data }, { on := 20, ground := Ground.data }, { on := 16, ground := Ground.guard }], guard := some (16, true) }) (v := ?v21) rfl (by kernel_rfl) (by kernel_rfl) (by kernel_rfl) (fun _ _ _ h => h) (Or.inl ⟨by rfl, ?hy21⟩) (by assumption) ?rest21
        case hy21 => (intro w hSw; (try dsimp only at hSw); go_simp; try with_reducible rfl)
        (try simp only [Act.put, List.setIfInBounds_toArray, List.set_cons_zero, List.set_cons_succ])
        refine wpAnyH_take (i := 22) (oi := { dst := some 58, op := Op.load 25 (Operand.tmp 1), type := 25, pos := "law.go:148", after := #[{ on := 16, ground := Ground.guard }], guard := some (16, true) }) (v := ?v22) rfl (by kernel_rfl) (by kernel_rfl) (by kernel_rfl) (fun _ _ _ h => h) (Or.inl ⟨by rfl, ?hy22⟩) (by assumption) ?rest22
        case hy22 => (intro w hSw; (try dsimp only at hSw); go_simp; try with_reducible rfl)
        (try simp only [Act.put, List.setIfInBounds_toArray, List.set_cons_zero, List.set_cons_succ])
        refine wpAnyH_ready (rs := [23]) (by kernel_rfl) (by simp) ?_
        refine AllReadyH.cons (o := { dst := some 59, op := Op.call { callee := Callee.value (Operand.func 25), args := #[Operand.tmp 58], argTypes := #[25] }, type := 3, pos := "law.go:148", after := #[{ on := 22, ground := Ground.data }, { on := 16, ground := Ground.chain }, { on := 16, ground := Ground.guard }], guard := some (16, true) }) rfl (fun K hK => ?_) AllReadyH.nil
        go_simp
        refine (HTK.out _).mono ?_
        rintro e x1 ⟨rfl, hx1⟩
        have k1 := k0.trans (hx1.mono k0.size)
        go_wp2_with fail
        refine hK.out _ _ (HD.out _ k1) (fun hHeld => ?_)
        clear hK K
        (try simp only [Act.put, List.setIfInBounds_toArray, List.set_cons_zero, List.set_cons_succ])
        refine wpAnyH_take (i := 24) (oi := { dst := some 60, op := Op.convert 3 22 (Operand.tmp 59), type := 22, pos := "law.go:148", after := #[{ on := 23, ground := Ground.data }, { on := 16, ground := Ground.guard }], guard := some (16, true) }) (v := ?v24) rfl (by kernel_rfl) (by kernel_rfl) (by kernel_rfl) (fun _ _ _ h => h) (Or.inl ⟨by rfl, ?hy24⟩) (by assumption) ?rest24
        case hy24 => (intro w hSw; (try dsimp only at hSw); go_simp; try with_reducible rfl)
        (try simp only [Act.put, List.setIfInBounds_toArray, List.set_cons_zero, List.set_cons_succ])
        refine wpAnyH_take (i := 25) (oi := { dst := some 61, op := Op.binOp BinOp.eql 22 (Operand.tmp 57) (Operand.tmp 60) 22, type := 4, pos := "law.go:148", after := #[{ on := 21, ground := Ground.data }, { on := 24, ground := Ground.data }, { on := 16, ground := Ground.guard }], guard := some (16, true) }) (v := ?v25) rfl (by kernel_rfl) (by kernel_rfl) (by kernel_rfl) (fun _ _ _ h => h) (Or.inl ⟨by rfl, ?hy25⟩) (by assumption) ?rest25
        case hy25 => (intro w hSw; (try dsimp only at hSw); go_simp; try with_reducible rfl)
        (try simp only [Act.put, List.setIfInBounds_toArray, List.set_cons_zero, List.set_cons_succ])
        refine wpAnyH_take (i := 26) (oi := { dst := some 62, op := Op.pick (Operand.tmp 52) (Operand.tmp 61) (Operand.const (Value.bool false)), type := 4, pos := "law.go:148", after := #[{ on := 16, ground := Ground.data }, { on := 25, ground := Ground.data }], guard := none }) (v := ?v26) rfl (by kernel_rfl) (by kernel_rfl) (by kernel_rfl) (fun _ _ _ h => h) (Or.inl ⟨by rfl, ?hy26⟩) (by assumption) ?rest26
        case hy26 => (intro w hSw; (try dsimp only at hSw); go_simp; try with_reducible rfl)
        (try simp only [Act.put, List.setIfInBounds_toArray, List.set_cons_zero, List.set_cons_succ])
        refine wpAnyH_take (i := 27) (oi := { dst := some 63, op := Op.move (Operand.tmp 62), type := 4, pos := "law.go:148", after := #[{ on := 26, ground := Ground.data }, { on := 23, ground := Ground.chain }], guard := none }) (v := ?v27) rfl (by kernel_rfl) (by kernel_rfl) (by kernel_rfl) (fun _ _ _ h => h) (Or.inl ⟨by rfl, ?hy27⟩) (by assumption) ?rest27
        case hy27 => (intro w hSw; (try dsimp only at hSw); go_simp; try with_reducible rfl)
        (try simp only [Act.put, List.setIfInBounds_toArray, List.set_cons_zero, List.set_cons_succ])
        refine wpAnyH_take (i := 28) (oi := { dst := some 64, op := Op.load 25 (Operand.tmp 1), type := 25, pos := "law.go:148", after := #[{ on := 27, ground := Ground.guard }], guard := some (27, true) }) (v := ?v28) rfl (by kernel_rfl) (by kernel_rfl) (by kernel_rfl) (fun _ _ _ h => h) (Or.inl ⟨by rfl, ?hy28⟩) (by assumption) ?rest28
        case hy28 => (intro w hSw; (try dsimp only at hSw); go_simp; try with_reducible rfl)
        (try simp only [Act.put, List.setIfInBounds_toArray, List.set_cons_zero, List.set_cons_succ])
        refine wpAnyH_ready (rs := [29]) (by kernel_rfl) (by simp) ?_
        refine AllReadyH.cons (o := { dst := some 65, op := Op.call { callee := Callee.value (Operand.func 18), args := #[Operand.tmp 64], argTypes := #[25] }, type := 28, pos := "law.go:148", after := #[{ on := 28, ground := Ground.data }, { on := 27, ground := Ground.chain }, { on := 27, ground := Ground.guard }], guard := some (27, true) }) rfl (fun K hK => ?_) AllReadyH.nil
        go_simp
        refine (HCP.out _).mono ?_
        rintro e x2 ⟨rfl, hx2⟩
        have k2 := k1.trans (hx2.mono k1.size)
        go_wp2_with fail
        refine hK.out _ _ (HD.out _ k2) (fun hHeld => ?_)
        clear hK K
        (try simp only [Act.put, List.setIfInBounds_toArray, List.set_cons_zero, List.set_cons_succ])
        refine wpAnyH_take (i := 30) (oi := { dst := some 66, op := Op.binOp BinOp.neq 28 (Operand.tmp 65) (Operand.const (Value.int IntKind.i64 0)) 28, type := 4, pos := "law.go:148", after := #[{ on := 29, ground := Ground.data }, { on := 27, ground := Ground.guard }], guard := some (27, true) }) (v := ?v30) rfl (by kernel_rfl) (by kernel_rfl) (by kernel_rfl) (fun _ _ _ h => h) (Or.inl ⟨by rfl, ?hy30⟩) (by assumption) ?rest30
        case hy30 => (intro w hSw; (try dsimp only at hSw); go_simp; try with_reducible rfl)
        (try simp only [Act.put, List.setIfInBounds_toArray, List.set_cons_zero, List.set_cons_succ])
        refine wpAnyH_take (i := 31) (oi := { dst := some 67, op := Op.move (Operand.tmp 66), type := 4, pos := "law.go:148", after := #[{ on := 30, ground := Ground.data }, { on := 29, ground := Ground.chain }, { on := 27, ground := Ground.guard }], guard := some (27, true) }) (v := ?v31) rfl (by kernel_rfl) (by kernel_rfl) (by kernel_rfl) (fun _ _ _ h => h) (Or.inl ⟨by rfl, ?hy31⟩) (by assumption) ?rest31
        case hy31 => (intro w hSw; (try dsimp only at hSw); go_simp; try with_reducible rfl)
        (try simp only [Act.put, List.setIfInBounds_toArray, List.set_cons_zero, List.set_cons_succ])
        refine wpAnyH_take (i := 32) (oi := { dst := some 68, op := Op.load 25 (Operand.tmp 3), type := 25, pos := "law.go:148", after := #[{ on := 31, ground := Ground.guard }], guard := some (31, false) }) (v := undef) rfl (by kernel_rfl) (by kernel_rfl) (by kernel_rfl) (fun _ _ _ h => h) (Or.inr ⟨by rfl, rfl⟩) (by assumption) ?_
        (try simp only [Act.put, List.setIfInBounds_toArray, List.set_cons_zero, List.set_cons_succ])
        refine wpAnyH_take (i := 33) (oi := { dst := some 69, op := Op.call { callee := Callee.value (Operand.func 18), args := #[Operand.tmp 68], argTypes := #[25] }, type := 28, pos := "law.go:148", after := #[{ on := 32, ground := Ground.data }, { on := 31, ground := Ground.chain }, { on := 31, ground := Ground.guard }], guard := some (31, false) }) (v := undef) rfl (by kernel_rfl) (by kernel_rfl) (by kernel_rfl) (fun _ _ _ h => h) (Or.inr ⟨by rfl, rfl⟩) (by assumption) ?_
        (try simp only [Act.put, List.setIfInBounds_toArray, List.set_cons_zero, List.set_cons_succ])
        refine wpAnyH_take (i := 34) (oi := { dst := some 70, op := Op.binOp BinOp.eql 28 (Operand.tmp 69) (Operand.const (Value.int IntKind.i64 0)) 28, type := 4, pos := "law.go:148", after := #[{ on := 33, ground := Ground.data }, { on := 31, ground := Ground.guard }], guard := some (31, false) }) (v := undef) rfl (by kernel_rfl) (by kernel_rfl) (by kernel_rfl) (fun _ _ _ h => h) (Or.inr ⟨by rfl, rfl⟩) (by assumption) ?_
        (try simp only [Act.put, List.setIfInBounds_toArray, List.set_cons_zero, List.set_cons_succ])
        refine wpAnyH_take (i := 35) (oi := { dst := some 71, op := Op.pick (Operand.tmp 67) (Operand.const (Value.bool true)) (Operand.tmp 70), type := 4, pos := "law.go:148", after := #[{ on := 31, ground := Ground.data }, { on := 34, ground := Ground.data }, { on := 27, ground := Ground.guard }], guard := some (27, true) }) (v := ?v35) rfl (by kernel_rfl) (by kernel_rfl) (by kernel_rfl) (fun _ _ _ h => h) (Or.inl ⟨by rfl, ?hy35⟩) (by assumption) ?rest35
        case hy35 => (intro w hSw; (try dsimp only at hSw); go_simp; try with_reducible rfl)
        (try simp only [Act.put, List.setIfInBounds_toArray, List.set_cons_zero, List.set_cons_succ])
        refine wpAnyH_take (i := 36) (oi := { dst := some 72, op := Op.pick (Operand.tmp 63) (Operand.tmp 71) (Operand.const (Value.bool false)), type := 4, pos := "law.go:148", after := #[{ on := 27, ground := Ground.data }, { on := 35, ground := Ground.data }], guard := none }) (v := ?v36) rfl (by kernel_rfl) (by kernel_rfl) (by kernel_rfl) (fun _ _ _ h => h) (Or.inl ⟨by rfl, ?hy36⟩) (by assumption) ?rest36
        case hy36 => (intro w hSw; (try dsimp only at hSw); go_simp; try with_reducible rfl)
        (try simp only [Act.put, List.setIfInBounds_toArray, List.set_cons_zero, List.set_cons_succ])
        refine wpAnyH_take (i := 37) (oi := { dst := some 73, op := Op.move (Operand.tmp 72), type := 4, pos := "law.go:148", after := #[{ on := 36, ground := Ground.data }, { on := 33, ground := Ground.chain }], guard := none }) (v := ?v37) rfl (by kernel_rfl) (by kernel_rfl) (by kernel_rfl) (fun _ _ _ h => h) (Or.inl ⟨by rfl, ?hy37⟩) (by assumption) ?rest37
        case hy37 => (intro w hSw; (try dsimp only at hSw); go_simp; try with_reducible rfl)
        (try simp only [Act.put, List.setIfInBounds_toArray, List.set_cons_zero, List.set_cons_succ])
        refine wpAnyH_ready (rs := [38]) (by kernel_rfl) (by simp) ?_
        refine AllReadyH.cons (o := { dst := some 74, op := Op.call { callee := Callee.value (Operand.func 13), args := #[], argTypes := #[] }, type := 4, pos := "law.go:148", after := #[{ on := 37, ground := Ground.chain }, { on := 37, ground := Ground.guard }], guard := some (37, true) }) rfl (fun K hK => ?_) AllReadyH.nil
        go_simp
        refine (awake_any _).mono ?_
        rintro e x4 ⟨rfl, hx4⟩
        have k4 := k2.trans (hx4.mono k2.size)
        go_wp2_with fail
        refine hK.out _ _ (HD.out _ k4) (fun hHeld => ?_)
        clear hK K
        (try simp only [Act.put, List.setIfInBounds_toArray, List.set_cons_zero, List.set_cons_succ])
        refine wpAnyH_take (i := 39) (oi := { dst := some 75, op := Op.pick (Operand.tmp 73) (Operand.tmp 74) (Operand.const (Value.bool false)), type := 4, pos := "law.go:148", after := #[{ on := 37, ground := Ground.data }, { on := 38, ground := Ground.data }], guard := none }) (v := ?v39) rfl (by kernel_rfl) (by kernel_rfl) (by kernel_rfl) (fun _ _ _ h => h) (Or.inl ⟨by rfl, ?hy39⟩) (by assumption) ?rest39
        case hy39 => (intro w hSw; (try dsimp only at hSw); go_simp; try with_reducible rfl)
        (try simp only [Act.put, List.setIfInBounds_toArray, List.set_cons_zero, List.set_cons_succ])
        refine wpAnyH_take (i := 40) (oi := { dst := some 2, op := Op.assign (Operand.tmp 75), type := 4, pos := "law.go:148", after := #[{ on := 39, ground := Ground.data }, { on := 38, ground := Ground.chain }, { on := 0, ground := Ground.phase }, { on := 1, ground := Ground.phase }, { on := 2, ground := Ground.phase }, { on := 3, ground := Ground.phase }, { on := 4, ground := Ground.phase }, { on := 5, ground := Ground.phase }, { on := 6, ground := Ground.phase }, { on := 7, ground := Ground.phase }, { on := 8, ground := Ground.phase }, { on := 9, ground := Ground.phase }, { on := 10, ground := Ground.phase }, { on := 11, ground := Ground.phase }, { on := 12, ground := Ground.phase }, { on := 13, ground := Ground.phase }, { on := 14, ground := Ground.phase }, { on := 15, ground := Ground.phase }, { on := 16, ground := Ground.phase }, { on := 17, ground := Ground.phase }, { on := 18, ground := Ground.phase }, { on := 19, ground := Ground.phase }, { on := 20, ground := Ground.phase }, { on := 21, ground := Ground.phase }, { on := 22, ground := Ground.phase }, { on := 23, ground := Ground.phase }, { on := 24, ground := Ground.phase }, { on := 25, ground := Ground.phase }, { on := 26, ground := Ground.phase }, { on := 27, ground := Ground.phase }, { on := 28, ground := Ground.phase }, { on := 29, ground := Ground.phase }, { on := 30, ground := Ground.phase }, { on := 31, ground := Ground.phase }, { on := 32, ground := Ground.phase }, { on := 33, ground := Ground.phase }, { on := 34, ground := Ground.phase }, { on := 35, ground := Ground.phase }, { on := 36, ground := Ground.phase }, { on := 37, ground := Ground.phase }, { on := 38, ground := Ground.phase }, { on := 39, ground := Ground.phase }], guard := none }) (v := ?v40) rfl (by kernel_rfl) (by kernel_rfl) (by kernel_rfl) (fun _ _ _ h => h) (Or.inl ⟨by rfl, ?hy40⟩) (by assumption) ?rest40
        case hy40 => (intro w hSw; (try dsimp only at hSw); go_simp; try with_reducible rfl)
        (try simp only [Act.put, List.setIfInBounds_toArray, List.set_cons_zero, List.set_cons_succ])
        refine wpAnyH_done (by kernel_rfl) ?_ _
        all_goals
          go_wp2_with fail
          go_ret
          exact ⟨rfl, hbwU.trans (k4.mono hbwU.size)⟩
    · have h8 := and8 p.flags
      rw [f3] at h8
      simp only [if_true] at h8
      have hQ : refuseP p = Pk.none := by unfold refuseP; rw [f3]; exact if_pos rfl
      have hN : refuseP Pk.none = refP Pk.none 0 0 10 := by decide
      have hrf : ∀ w1, Calls Try.prog 23 #[.agg #[.int .i64 p.src, .int .i64 p.dst, .int .i64 p.sport, .int .i64 p.dport, .int .u32 p.seq, .int .u32 p.ack, .int .i64 p.flags, .int .i64 p.window, .int .i64 p.probe, .int .i64 p.origin, .slice A n c]] w1 fun e w' => e = .returned (.tuple #[.agg #[.int .i64 0, .int .i64 0, .int .i64 0, .int .i64 0, .int .u32 0, .int .u32 0, .int .i64 0, .int .i64 0, .int .i64 0, .int .i64 0, .slice none 0 0], .bool false]) ∧ Below w1.heap.size w1 w' := fun w1 => by
        have := refuse_any p A n c w1 hlen (by omega) hu
        unfold RefPost at this
        rw [hQ, f3] at this
        exact this
      have hrq : ∀ w1, Calls Try.prog 23 #[.agg #[.int .i64 0, .int .i64 0, .int .i64 0, .int .i64 0, .int .u32 0, .int .u32 0, .int .i64 0, .int .i64 0, .int .i64 0, .int .i64 0, .slice none 0 0]] w1 fun e w' => e = .returned (.tuple #[.agg #[.int .i64 0, .int .i64 0, .int .i64 0, .int .i64 0, .int .u32 0, .int .u32 0, .int .i64 10, .int .i64 0, .int .i64 0, .int .i64 0, .slice none 0 0], .bool true]) ∧ Below w1.heap.size w1 w' := fun w1 => by
        have := refuse_any Pk.none none 0 0 w1 rfl (by omega) (by unfold u32P Pk.none; decide)
        unfold RefPost at this
        rw [hN, show fl Pk.none.flags 3 = false from fl0] at this
        exact this
      have hsm : ∀ w1, Calls Try.prog 20 #[.agg #[.int .i64 0, .int .i64 0, .int .i64 0, .int .i64 0, .int .u32 0, .int .u32 0, .int .i64 0, .int .i64 0, .int .i64 0, .int .i64 0, .slice none 0 0], .agg #[.int .i64 0, .int .i64 0, .int .i64 0, .int .i64 0, .int .u32 0, .int .u32 0, .int .i64 0, .int .i64 0, .int .i64 0, .int .i64 0, .slice none 0 0]] w1 fun e w' => e = .returned (.bool true) ∧ Below w1.heap.size w1 w' := fun w1 => by
        have := same_any Pk.none Pk.none none none 0 0 0 0 0 0 w1 (Rd.nil _ _ _) (Rd.nil _ _ _) (Nat.zero_le _) (Nat.zero_le _)
        rw [decide_eq_true rfl] at this
        exact this
      have HRF := Lib.hid hrf
      have HRQ := Lib.hid hrq
      have HSM := Lib.hid hsm
      clear hrf hrq hsm hQ hN hlen hW hg hs f3
      go_enter Try.func11, Try.ntmps11
      go_upto_region 1 with fail
      have hW2 : w.alloc (.cells #[.int .i64 p.src, .int .i64 p.dst, .int .i64 p.sport, .int .i64 p.dport, .int .u32 p.seq, .int .u32 p.ack, .int .i64 p.flags, .int .i64 p.window, .int .i64 p.probe, .int .i64 p.origin, .slice A n c] 25) = W := HW.out.symm
      rw [hW2, ← HG.out]
      clear hW2
      go_wp2_with fail
      refine (HRF.out W).mono ?_
      rintro e w1 ⟨rfl, hb1⟩
      have hz1w := hb1.size
      have HP1 := Lib.hid (HP.out.below hb1 (by rw [HS.out]; omega))
      clear c0 c1 c2 c3 c4 c5 c6 c7 c8 c9 c10
      go_upto_region 4 with fail
      obtain ⟨V, hV⟩ : ∃ V, V = w1.alloc (.cells #[.int .i64 0, .int .i64 0, .int .i64 0, .int .i64 0, .int .u32 0, .int .u32 0, .int .i64 0, .int .i64 0, .int .i64 0, .int .i64 0, .slice none 0 0] 25) := ⟨_, rfl⟩
      obtain ⟨g1, hg1⟩ : ∃ g1, g1 = w1.heap.size := ⟨_, rfl⟩
      have hV2 : w1.alloc (.cells #[.int .i64 0, .int .i64 0, .int .i64 0, .int .i64 0, .int .u32 0, .int .u32 0, .int .i64 0, .int .i64 0, .int .i64 0, .int .i64 0, .slice none 0 0] 25) = V := hV.symm
      rw [hV2, ← hg1]
      have hbV : Below w1.heap.size w1 V := by rw [hV]; exact (Below.refl _ _).alloc (Nat.le_refl _) _
      have hsV : V.heap.size = g1 + 1 := by rw [hV, hg1]; simp
      have HD1 := Lib.hid (show PkAt V g1 Pk.none none 0 0 by rw [hV, hg1]; exact PkAt.new _ Pk.none _ _ _)
      have hgg : g < w1.heap.size := by rw [HS.out] at hz1w; omega
      have HPV := Lib.hid (HP1.out.below hbV hgg)
      have hg1w : g1 < V.heap.size := by omega
      have hgV : w1.heap.size ≤ V.heap.size := hbV.size
      clear hg1 hsV hV2 hV
      have d0 : V.cell? ⟨g1, 0, none⟩ = some (.int .i64 0) := HD1.out.c0
      have d1 : V.cell? ⟨g1, 1, none⟩ = some (.int .i64 0) := HD1.out.c1
      have d2 : V.cell? ⟨g1, 2, none⟩ = some (.int .i64 0) := HD1.out.c2
      have d3 : V.cell? ⟨g1, 3, none⟩ = some (.int .i64 0) := HD1.out.c3
      have d4 : V.cell? ⟨g1, 4, none⟩ = some (.int .u32 0) := HD1.out.c4
      have d5 : V.cell? ⟨g1, 5, none⟩ = some (.int .u32 0) := HD1.out.c5
      have d6 : V.cell? ⟨g1, 6, none⟩ = some (.int .i64 0) := HD1.out.c6
      have d7 : V.cell? ⟨g1, 7, none⟩ = some (.int .i64 0) := HD1.out.c7
      have d8 : V.cell? ⟨g1, 8, none⟩ = some (.int .i64 0) := HD1.out.c8
      have d9 : V.cell? ⟨g1, 9, none⟩ = some (.int .i64 0) := HD1.out.c9
      have d10 : V.cell? ⟨g1, 10, none⟩ = some (.slice none 0 0) := HD1.out.c10
      go_wp2_with fail
      refine (HRQ.out V).mono ?_
      rintro e w2 ⟨rfl, hb2⟩
      have hz2 := hb2.size
      have HP2 := Lib.hid (HPV.out.below hb2 (by omega))
      have HD2 := Lib.hid (HD1.out.below hb2 (by omega))
      clear d0 d1 d2 d3 d4 d5 d6 d7 d8 d9 d10
      go_upto_region 5 with fail
      obtain ⟨U, hU⟩ : ∃ U, U = w2.alloc (.cells #[.int .i64 0, .int .i64 0, .int .i64 0, .int .i64 0, .int .u32 0, .int .u32 0, .int .i64 10, .int .i64 0, .int .i64 0, .int .i64 0, .slice none 0 0] 25) := ⟨_, rfl⟩
      rw [← hU]
      have hbU : Below w2.heap.size w2 U := by rw [hU]; exact (Below.refl _ _).alloc (Nat.le_refl _) _
      have hP3 := HP2.out.below hbU (by omega)
      have hD13 := HD2.out.below hbU (by omega)
      have hbwU : Below w.heap.size w U := hb0.trans ((hb1.trans ((hbV.mono hz1w).trans ((hb2.mono (by omega)).trans (hbU.mono (by omega))))).mono hb0.size)
      have c6 := hP3.c6
      have d0 : U.cell? ⟨g1, 0, none⟩ = some (.int .i64 0) := hD13.c0
      have d1 : U.cell? ⟨g1, 1, none⟩ = some (.int .i64 0) := hD13.c1
      have d2 : U.cell? ⟨g1, 2, none⟩ = some (.int .i64 0) := hD13.c2
      have d3 : U.cell? ⟨g1, 3, none⟩ = some (.int .i64 0) := hD13.c3
      have d4 : U.cell? ⟨g1, 4, none⟩ = some (.int .u32 0) := hD13.c4
      have d5 : U.cell? ⟨g1, 5, none⟩ = some (.int .u32 0) := hD13.c5
      have d6 : U.cell? ⟨g1, 6, none⟩ = some (.int .i64 0) := hD13.c6
      have d7 : U.cell? ⟨g1, 7, none⟩ = some (.int .i64 0) := hD13.c7
      have d8 : U.cell? ⟨g1, 8, none⟩ = some (.int .i64 0) := hD13.c8
      have d9 : U.cell? ⟨g1, 9, none⟩ = some (.int .i64 0) := hD13.c9
      have d10 : U.cell? ⟨g1, 10, none⟩ = some (.slice none 0 0) := hD13.c10
      clear hU hP3 hD13
      go_wp2_with fail
      refine (HSM.out U).mono ?_
      rintro e w3 ⟨rfl, hb3⟩
      go_wp2_with fail
      refine (awake_any _).mono ?_
      rintro e w4 ⟨rfl, hb4⟩
      go_wp2
      go_ret
      exact ⟨rfl, hbwU.trans ((hb3.trans (hb4.mono hb3.size)).mono hbwU.size)⟩
end Go.Proofs.Ytjpdamighffgfaa.packetRefusedDone
namespace Go.Proofs.Ytjpdamighffgfaa.packetRefusedDone
open Go.ChangeShapes Go.WideShapes Go.ChangeAt Go.RowKit Mem SM lib sum PM pk
set_option linter.unusedVariables false
theorem own : ownKnob Try.prog.godebug = none := by kernel_rfl
theorem laidOut : laidOutB Try.prog = true := by kernel_rfl
set_option maxRecDepth 100000 in
theorem lifted (os : Os) (started : os.Started) (H : Type) (enc : TypeId × Value → H) :
    ReturnsInHanded {} Try.checked os 11 .any (Rows.packetRefusedSpec.pre6 enc Try.prog Try.f11 Rows.packetRefusedRow.domain false) (Rows.packetRefusedSpec.post enc Try.prog Try.f11 false true false false) := by
  refine returnsInHanded_of_change (C := Try.checked) own started (by kernel_rfl) Try.func11
    (ChangeSpec.witness6 (enc := enc) (C := Try.checked) false ⟨#[], #[.agg #[.int .i64 0, .int .i64 0, .int .i64 0, .int .i64 0, .int .u32 0, .int .u32 0, .int .i64 0, .int .i64 0, .int .i64 0, .int .i64 0, .slice none 0 0]], []⟩ 8 (by kernel_rfl) (by kernel_rfl) (by kernel_rfl) (by kernel_rfl)) ?_
  intro W base args ds gs before hval0 hW hcnd _
  have hval : ∀ (j : Nat) t v, Try.f11.params[j]? = some t → args[j]? = some v → Value.okWide Try.prog W .any base t v := hval0
  have hW' := hW
  obtain ⟨p, q, hA0, hV, rfl, hfz, hnd⟩ := hW
  have hA : DataW.TrodAll enc Try.prog W 0 (fun _ => true) true Try.f11.params.toList args.toList ds p := hA0
  rw [Try.params11] at hA hval
  obtain ⟨v0, vs0, d0, ds0, p0, q0, hargs, rfl, rfl, h0, r0⟩ := trodAll_cons hA
  obtain ⟨rfl, rfl, rfl⟩ := trodAll_nil r0
  obtain rfl : args = #[v0] := by cases args; simp_all
  obtain ⟨rfl, rfl⟩ := trodVars_none hV
  have k0 := h0
  have lt0 : ∀ x ∈ p0, x.block < W.heap.size := by obtain ⟨m, hm⟩ := k0; exact DataW.trod_lt m _ _ _ hm
  obtain ⟨P0, A0, n0, c0, rfl, w0, m0, b0, u0⟩ := open_pk (hval 0 25 v0 rfl rfl) h0
  clear hA0 hval0
  refine (walk P0 A0 n0 c0 W w0 m0 b0 u0).mono fun e W' ⟨he, bel⟩ => ?_
  subst he
  exact ⟨_, rfl, _, _, _, [], _, [], hW', trodAll_mk1 (shut_bool Try.underlying4 _), (trodAll_cons_mk (Below.trod laidOut (by kernel_rfl) (of_decide_eq_true (by kernel_rfl)) k0 bel lt0) trodAll_mk0), rfl, bel.frame _, fun h => by cases h⟩

theorem over : Rows.packetRefusedRow.holds Try.pinned (OpenSpec.ofChange Rows.packetRefusedSpec) :=
  OpenClaim.holds_of_wide 11 Try.f11 rfl rfl rfl rfl rfl rfl rfl ⟨rfl, rfl, rfl, rfl, rfl⟩ rfl rfl rfl rfl rfl (by kernel_rfl) Try.func11 (by kernel_rfl)
    (of_decide_eq_true (by kernel_rfl)) (by unfold Func.isWrapper; first | (rw [if_pos (by decide +kernel)]; kernel_rfl) | (rw [if_neg (by decide +kernel)]; exact ⟨rfl, rfl⟩))
    (fun os started H enc _ => lifted os started H enc)
/-- the given statement -/
theorem proved : Rows.PacketRefusedSaid := over
#print axioms proved
end Go.Proofs.Ytjpdamighffgfaa.packetRefusedDone
