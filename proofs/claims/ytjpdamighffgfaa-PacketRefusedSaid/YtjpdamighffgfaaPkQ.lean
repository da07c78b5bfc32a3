/- Contracts of the document's Takes, Back and Refuse. -/
import Derived.Test.YtjpdamighffgfaaPkM
namespace Go.Proofs.Ytjpdamighffgfaa.pk
open Go.RowKit Mem SM lib sum PM
set_option linter.unusedVariables false
set_option maxHeartbeats 4000000 in
theorem rtakes_any (p : Pk) (A : Option Addr) (n c : Nat) (w : World) (hn : n = p.data.length) (hnb : n ≤ 1099511627776) :
    Calls Try.prog 26 #[pkV p A n c] w fun e w' => e = .returned (.int .i64 (takes p)) ∧ Below w.heap.size w w' := by
  have hT : takes p = (n : Int) + (if fl p.flags 0 then 1 else 0) + (if fl p.flags 2 then 1 else 0) := by unfold takes; rw [hn]
  have HT := Lib.hid hT
  clear hn hT
  unfold pkV
  have h1 := and1 p.flags
  have h4 := and4 p.flags
  cases f0 : fl p.flags 0 <;> cases f2 : fl p.flags 2
  all_goals
    rw [f0] at h1
    rw [f2] at h4
    have F0 := Lib.hid f0
    have F2 := Lib.hid f2
    clear f0 f2
    simp only [if_true, Bool.false_eq_true, if_false] at h1 h4
    go_enter Try.func26, Try.ntmps26
    go_wp2
    go_ret
    exact ⟨ret_int (by rw [HT.out, F0.out, F2.out]; simp), (Below.refl _ _).alloc (Nat.le_refl _) _⟩
set_option maxHeartbeats 4000000 in
theorem rback_any (p : Pk) (A : Option Addr) (n c : Nat) (w : World) :
    Calls Try.prog 28 #[pkV p A n c] w fun e w' => e = .returned (pkV (backP p) none 0 0) ∧ Below w.heap.size w w' := by
  unfold pkV
  go_enter Try.func28, Try.ntmps28
  go_wp2
  refine bodyPost_ret (v := .agg #[.int .i64 p.dst, .int .i64 p.src, .int .i64 p.dport, .int .i64 p.sport, .int .u32 0, .int .u32 0, .int .i64 0, .int .i64 0, .int .i64 0, .int .i64 0, .slice none 0 0]) (by simp [results, Try.results28, go_sem]) rfl ⟨rfl, ?_⟩
  exact (((Below.refl _ _).alloc (Nat.le_refl _) _).alloc (by simp) _).alloc (by simp; omega) _
set_option maxRecDepth 50000 in
set_option maxHeartbeats 16000000 in
theorem rrefuse_any (p : Pk) (A : Option Addr) (n c : Nat) (w : World) (hn : n = p.data.length) (hnb : n ≤ 1099511627776) (hu : u32P p) :
    Calls Try.prog 24 #[pkV p A n c] w (RefPost p w) := by
  obtain ⟨W, hW⟩ : ∃ W, W = (w.alloc (pkO p A n c)).alloc (.cells #[.int .i64 0, .int .i64 0, .int .i64 0, .int .i64 0, .int .u32 0, .int .u32 0, .int .i64 0, .int .i64 0, .int .i64 0, .int .i64 0, .slice none 0 0] 25) := ⟨_, rfl⟩
  obtain ⟨g, hg⟩ : ∃ g, g = w.heap.size := ⟨_, rfl⟩
  have hb1 : Below (w.alloc (pkO p A n c)).heap.size (w.alloc (pkO p A n c)) W := by rw [hW]; exact (Below.refl _ _).alloc (Nat.le_refl _) _
  have hP : PkAt W g p A n c := by rw [hg]; exact (PkAt.new w p A n c).below hb1 (by simp)
  have hZ : ZAt W (g + 1) := by
    have := ZAt.new (w.alloc (pkO p A n c))
    rw [hW, hg]
    simpa using this
  have hs : W.heap.size = g + 2 := by rw [hW, hg]; simp
  have hb0 : Below w.heap.size w W := by rw [hW]; exact ((Below.refl _ _).alloc (Nat.le_refl _) _).alloc (by simp) _
  have HP := Lib.hid hP
  have HZ := Lib.hid hZ
  have HW := Lib.hid hW
  have Hg := Lib.hid hg
  have HS := Lib.hid hs
  have HB := Lib.hid hb0
  have HT := Lib.hid (rtakes_any p A n c)
  have HBK := Lib.hid (rback_any p A n c)
  have h8 := and8 p.flags
  have h2 := and2 p.flags
  obtain ⟨c0, c1, c2, c3, c4, c5, c6, c7, c8, c9, c10⟩ := hP
  have HN := Lib.hid hn
  have hval0 : IntKind.u32.wrap ((IntKind.i64.wrap (IntKind.i64.wrap p.seq + takes p)).tmod 4294967296) = (p.seq + takes p) % 4294967296 := by
    have ht : 0 ≤ takes p ∧ takes p ≤ (n : Int) + 2 := by
      unfold takes
      rw [← HN.out]
      constructor <;> (cases fl p.flags 0 <;> cases fl p.flags 2 <;> simp <;> omega)
    have hs := hu.1
    have w1 : IntKind.i64.wrap p.seq = p.seq := by rw [IntKind.wrap_i64]; first | omega | (unfold wrap64; omega)
    have w2 : IntKind.i64.wrap (p.seq + takes p) = p.seq + takes p := by rw [IntKind.wrap_i64]; first | omega | (unfold wrap64; omega)
    rw [w1, w2, wrap_u32, Int.tmod_eq_emod_of_nonneg (by omega)]
    omega
  have HV := Lib.hid hval0
  clear hval0
  clear hW hg hs hb1 hb0 hn
  unfold pkV
  cases f8 : fl p.flags 3
  · rw [f8] at h8
    simp only [Bool.false_eq_true, if_false] at h8
    go_enter Try.func24, Try.ntmps24
    go_upto_region 1 with fail
    have hW2 : (w.alloc (.cells #[.int .i64 p.src, .int .i64 p.dst, .int .i64 p.sport, .int .i64 p.dport, .int .u32 p.seq, .int .u32 p.ack, .int .i64 p.flags, .int .i64 p.window, .int .i64 p.probe, .int .i64 p.origin, .slice A n c] 25)).alloc (.cells #[.int .i64 0, .int .i64 0, .int .i64 0, .int .i64 0, .int .u32 0, .int .u32 0, .int .i64 0, .int .i64 0, .int .i64 0, .int .i64 0, .slice none 0 0] 25) = W := HW.out.symm
    rw [hW2, ← Hg.out]
    clear hW2
    obtain ⟨w1, hw1⟩ : ∃ w1, w1 = W := ⟨_, rfl⟩
    have hb1 : Below W.heap.size W w1 := by rw [hw1]; exact Below.refl _ _
    have hP1 := HP.out.below hb1 (by rw [HS.out]; omega)
    have hZ1 := HZ.out.below hb1 (by rw [HS.out]; omega)
    have HP1 := Lib.hid hP1
    go_wp2_with fail
    rw [← hw1]
    clear hw1
    refine (HBK.out w1).mono ?_
    rintro e w2 ⟨rfl, hb2⟩
    have hz12 : W.heap.size ≤ w1.heap.size := hb1.size
    have hP2 := HP1.out.below hb2 (by rw [HS.out] at hz12; omega)
    have hZ2 := hZ1.below hb2 (by rw [HS.out] at hz12; omega)
    unfold pkV backP
    go_upto_region 5 with fail
    obtain ⟨w3, hw3⟩ : ∃ w3, w3 = w2.alloc (pkO (refP p 0 0 10) none 0 0) := ⟨_, rfl⟩
    obtain ⟨g4, hg4⟩ : ∃ g4, g4 = w2.heap.size := ⟨_, rfl⟩
    have hz23 : w1.heap.size ≤ w2.heap.size := hb2.size
    have hb23 : Below w2.heap.size w2 w3 := by rw [hw3]; exact (Below.refl _ _).alloc (Nat.le_refl _) _
    have hR3 : RS w g g4 p A n c (refP p 0 0 10) w3 := by
      rw [HS.out] at hz12
      refine ⟨hP2.below hb23 (by omega), by rw [hw3, hg4]; exact PkAt.new _ _ _ _ _, hZ2.below hb23 (by omega), ?_, ?_, ?_, by omega, by rw [hw3, hg4]; simp, Hg.out⟩
      · rw [hw3, hg4]; unfold pkO; simp
      · rw [hw3, hg4]; unfold pkO; simp
      · exact HB.out.trans ((hb1.mono HB.out.size).trans ((hb2.mono (Nat.le_trans HB.out.size hb1.size)).trans (hb23.mono (Nat.le_trans HB.out.size (Nat.le_trans hb1.size hz23)))))
    have hw3' : w2.alloc (.cells #[.int .i64 p.dst, .int .i64 p.src, .int .i64 p.dport, .int .i64 p.sport, .int .u32 0, .int .u32 0, .int .i64 10, .int .i64 0, .int .i64 0, .int .i64 0, .slice none 0 0] 25) = w3 := hw3.symm
    rw [hw3', ← hg4]
    clear hw3 hw3' hg4 hb23 hP2 hZ2 hb2 hb1 c0 c1 c2 c3 c4 c5 c6 c7 c8 c9 c10
    have HR3 := Lib.hid hR3
    have F8 := Lib.hid f8
    clear f8
    go_cut [4] (fun s4 wx => s4 = .pointer (some ⟨g4, 0, none⟩) ∧ RS w g g4 p A n c (refP p 0 ((p.seq + takes p) % 4294967296) 10) wx)
    case first =>
      have hR3d := hR3.drew
      go_region_held3 (fun w' => w'.cell? ⟨g, 0, none⟩ = some (.int .i64 p.src) ∧ w'.cell? ⟨g, 1, none⟩ = some (.int .i64 p.dst) ∧ w'.cell? ⟨g, 2, none⟩ = some (.int .i64 p.sport) ∧ w'.cell? ⟨g, 3, none⟩ = some (.int .i64 p.dport) ∧ w'.cell? ⟨g, 4, none⟩ = some (.int .u32 p.seq) ∧ w'.cell? ⟨g, 5, none⟩ = some (.int .u32 p.ack) ∧ w'.cell? ⟨g, 6, none⟩ = some (.int .i64 p.flags) ∧ w'.cell? ⟨g, 7, none⟩ = some (.int .i64 p.window) ∧ w'.cell? ⟨g, 8, none⟩ = some (.int .i64 p.probe) ∧ w'.cell? ⟨g, 9, none⟩ = some (.int .i64 p.origin) ∧ w'.cell? ⟨g, 10, none⟩ = some (.slice A n c))
        (first | exact ⟨(hR3d).pk.c0, (hR3d).pk.c1, (hR3d).pk.c2, (hR3d).pk.c3, (hR3d).pk.c4, (hR3d).pk.c5, (hR3d).pk.c6, (hR3d).pk.c7, (hR3d).pk.c8, (hR3d).pk.c9, (hR3d).pk.c10⟩ | exact ⟨(hR4).pk.c0, (hR4).pk.c1, (hR4).pk.c2, (hR4).pk.c3, (hR4).pk.c4, (hR4).pk.c5, (hR4).pk.c6, (hR4).pk.c7, (hR4).pk.c8, (hR4).pk.c9, (hR4).pk.c10⟩ | exact ⟨(hR5).pk.c0, (hR5).pk.c1, (hR5).pk.c2, (hR5).pk.c3, (hR5).pk.c4, (hR5).pk.c5, (hR5).pk.c6, (hR5).pk.c7, (hR5).pk.c8, (hR5).pk.c9, (hR5).pk.c10⟩ | fail)
        (first | (go_at_call 26; refine (HT.out _ HN.out hnb).mono ?_; rintro e w4 ⟨rfl, hb4⟩; have hR4 := hR3d.below hb4; have hR5 := hR4.ack (x := IntKind.u32.wrap ((IntKind.i64.wrap (IntKind.i64.wrap p.seq + takes p)).tmod 4294967296)); have r5 := hR4.rs.c5; have fr5 := hR4.f5) | fail)
      all_goals
        have hval : IntKind.u32.wrap ((IntKind.i64.wrap (IntKind.i64.wrap p.seq + takes p)).tmod 4294967296) = (p.seq + takes p) % 4294967296 := HV.out
        have hR5' : RS w g g4 p A n c (refP p 0 ((p.seq + takes p) % 4294967296) 10) (w4.setCell ⟨g4, 5, none⟩ (.int .u32 (IntKind.u32.wrap ((IntKind.i64.wrap (IntKind.i64.wrap p.seq + takes p)).tmod 4294967296)))) := by
          have h9 := hR5
          rw [hval] at h9 ⊢
          exact h9
        clear hval
        go_wp2_with fail
        go_meet
        exact ⟨rfl, hR5'⟩
    case rest =>
      obtain ⟨rfl, hR6⟩ := hcut
      obtain ⟨ak, hak⟩ : ∃ ak, ak = (p.seq + takes p) % 4294967296 := ⟨_, rfl⟩
      rw [← hak] at hR6
      have HAK := Lib.hid hak
      clear hak hR3
      have c0 := hR6.pk.c0
      have c1 := hR6.pk.c1
      have c2 := hR6.pk.c2
      have c3 := hR6.pk.c3
      have c4 := hR6.pk.c4
      have c5 := hR6.pk.c5
      have c6 := hR6.pk.c6
      have c7 := hR6.pk.c7
      have c8 := hR6.pk.c8
      have c9 := hR6.pk.c9
      have c10 := hR6.pk.c10
      cases f1 : fl p.flags 1
      · rw [f1] at h2
        simp only [Bool.false_eq_true, if_false] at h2
        have F1 := Lib.hid f1
        clear f1
        have hR7 := hR6
        have d0 : wc.cell? ⟨g4, 0, none⟩ = some (.int .i64 p.dst) := hR7.rs.c0
        have d1 : wc.cell? ⟨g4, 1, none⟩ = some (.int .i64 p.src) := hR7.rs.c1
        have d2 : wc.cell? ⟨g4, 2, none⟩ = some (.int .i64 p.dport) := hR7.rs.c2
        have d3 : wc.cell? ⟨g4, 3, none⟩ = some (.int .i64 p.sport) := hR7.rs.c3
        have d4 : wc.cell? ⟨g4, 4, none⟩ = some (.int .u32 0) := hR7.rs.c4
        have d5 : wc.cell? ⟨g4, 5, none⟩ = some (.int .u32 ak) := hR7.rs.c5
        have d6 : wc.cell? ⟨g4, 6, none⟩ = some (.int .i64 10) := hR7.rs.c6
        have d7 : wc.cell? ⟨g4, 7, none⟩ = some (.int .i64 0) := hR7.rs.c7
        have d8 : wc.cell? ⟨g4, 8, none⟩ = some (.int .i64 0) := hR7.rs.c8
        have d9 : wc.cell? ⟨g4, 9, none⟩ = some (.int .i64 0) := hR7.rs.c9
        have d10 : wc.cell? ⟨g4, 10, none⟩ = some (.slice none 0 0) := hR7.rs.c10
        obtain ⟨z0, z1, z2, z3, z4, z5, z6, z7, z8, z9, z10, y0, y1, y2, y3, y4, y5, y6, y7, y8, y9, y10⟩ := hR7.zr
        go_wp2_with fail
        have hr := chain_cells hR7.zr (.int .i64 p.dst) (.int .i64 p.src) (.int .i64 p.dport) (.int .i64 p.sport) (.int .u32 0) (.int .u32 ak) (.int .i64 10) (.int .i64 0) (.int .i64 0) (.int .i64 0) (.slice none 0 0)
        obtain ⟨r0, r1, r2, r3, r4, r5, r6, r7, r8, r9, r10⟩ := hr
        refine bodyPost_ret (v := .tuple #[.agg #[.int .i64 p.dst, .int .i64 p.src, .int .i64 p.dport, .int .i64 p.sport, .int .u32 0, .int .u32 ak, .int .i64 10, .int .i64 0, .int .i64 0, .int .i64 0, .slice none 0 0], .bool true]) ?_ rfl ?_
        · simp [results, Try.results24, go_sem, r0, r1, r2, r3, r4, r5, r6, r7, r8, r9, r10]
        · refine ⟨?_, set11 hR7.bel (by rw [Hg.out]; omega) _ _ _ _ _ _ _ _ _ _ _⟩
          rw [F8.out]
          unfold refuseP
          rw [if_neg (by rw [F8.out]; exact Bool.false_ne_true), if_neg (by rw [F1.out]; exact Bool.false_ne_true), ← HAK.out]
          rfl
      · rw [f1] at h2
        simp only [if_true] at h2
        have F1 := Lib.hid f1
        clear f1
        have hR7 := hR6
        have c5 := hR7.pk.c5
        have d4 : wc.cell? ⟨g4, 4, none⟩ = some (.int .u32 0) := hR7.rs.c4
        have e4 := hR7.f4
        have hR8 := hR7.seq (x := p.ack)
        go_upto_region 8 with fail
        clear c5 d4 e4
        obtain ⟨w8, hw8⟩ : ∃ w8, w8 = wc.setCell ⟨g4, 4, none⟩ (.int .u32 p.ack) := ⟨_, rfl⟩
        rw [← hw8] at hR8 ⊢
        clear hw8
        have d0 : w8.cell? ⟨g4, 0, none⟩ = some (.int .i64 p.dst) := hR8.rs.c0
        have d1 : w8.cell? ⟨g4, 1, none⟩ = some (.int .i64 p.src) := hR8.rs.c1
        have d2 : w8.cell? ⟨g4, 2, none⟩ = some (.int .i64 p.dport) := hR8.rs.c2
        have d3 : w8.cell? ⟨g4, 3, none⟩ = some (.int .i64 p.sport) := hR8.rs.c3
        have d4 : w8.cell? ⟨g4, 4, none⟩ = some (.int .u32 p.ack) := hR8.rs.c4
        have d5 : w8.cell? ⟨g4, 5, none⟩ = some (.int .u32 ak) := hR8.rs.c5
        have d6 : w8.cell? ⟨g4, 6, none⟩ = some (.int .i64 10) := hR8.rs.c6
        have d7 : w8.cell? ⟨g4, 7, none⟩ = some (.int .i64 0) := hR8.rs.c7
        have d8 : w8.cell? ⟨g4, 8, none⟩ = some (.int .i64 0) := hR8.rs.c8
        have d9 : w8.cell? ⟨g4, 9, none⟩ = some (.int .i64 0) := hR8.rs.c9
        have d10 : w8.cell? ⟨g4, 10, none⟩ = some (.slice none 0 0) := hR8.rs.c10
        obtain ⟨z0, z1, z2, z3, z4, z5, z6, z7, z8, z9, z10, y0, y1, y2, y3, y4, y5, y6, y7, y8, y9, y10⟩ := hR8.zr
        go_wp2_with fail
        have hr := chain_cells hR8.zr (.int .i64 p.dst) (.int .i64 p.src) (.int .i64 p.dport) (.int .i64 p.sport) (.int .u32 p.ack) (.int .u32 ak) (.int .i64 10) (.int .i64 0) (.int .i64 0) (.int .i64 0) (.slice none 0 0)
        obtain ⟨r0, r1, r2, r3, r4, r5, r6, r7, r8, r9, r10⟩ := hr
        refine bodyPost_ret (v := .tuple #[.agg #[.int .i64 p.dst, .int .i64 p.src, .int .i64 p.dport, .int .i64 p.sport, .int .u32 p.ack, .int .u32 ak, .int .i64 10, .int .i64 0, .int .i64 0, .int .i64 0, .slice none 0 0], .bool true]) ?_ rfl ?_
        · simp [results, Try.results24, go_sem, r0, r1, r2, r3, r4, r5, r6, r7, r8, r9, r10]
        · refine ⟨?_, set11 hR8.bel (by rw [Hg.out]; omega) _ _ _ _ _ _ _ _ _ _ _⟩
          rw [F8.out]
          unfold refuseP
          rw [if_neg (by rw [F8.out]; exact Bool.false_ne_true), if_pos F1.out, ← HAK.out]
          rfl
  · rw [f8] at h8
    simp only [if_true] at h8
    have F8 := Lib.hid f8
    clear f8
    go_enter Try.func24, Try.ntmps24
    go_upto_region 1 with fail
    have hW2 : (w.alloc (.cells #[.int .i64 p.src, .int .i64 p.dst, .int .i64 p.sport, .int .i64 p.dport, .int .u32 p.seq, .int .u32 p.ack, .int .i64 p.flags, .int .i64 p.window, .int .i64 p.probe, .int .i64 p.origin, .slice A n c] 25)).alloc (.cells #[.int .i64 0, .int .i64 0, .int .i64 0, .int .i64 0, .int .u32 0, .int .u32 0, .int .i64 0, .int .i64 0, .int .i64 0, .int .i64 0, .slice none 0 0] 25) = W := HW.out.symm
    rw [hW2, ← Hg.out]
    clear hW2
    have hZ1 := HZ.out
    have hZ1' := hZ1
    obtain ⟨z0, z1, z2, z3, z4, z5, z6, z7, z8, z9, z10, y0, y1, y2, y3, y4, y5, y6, y7, y8, y9, y10⟩ := hZ1'
    go_wp2_with fail
    have hr := chain_cells hZ1 (.int .i64 0) (.int .i64 0) (.int .i64 0) (.int .i64 0) (.int .u32 0) (.int .u32 0) (.int .i64 0) (.int .i64 0) (.int .i64 0) (.int .i64 0) (.slice none 0 0)
    obtain ⟨r0, r1, r2, r3, r4, r5, r6, r7, r8, r9, r10⟩ := hr
    refine bodyPost_ret (v := .tuple #[.agg #[.int .i64 0, .int .i64 0, .int .i64 0, .int .i64 0, .int .u32 0, .int .u32 0, .int .i64 0, .int .i64 0, .int .i64 0, .int .i64 0, .slice none 0 0], .bool false]) ?_ rfl ?_
    · simp [results, Try.results24, go_sem, r0, r1, r2, r3, r4, r5, r6, r7, r8, r9, r10]
    · refine ⟨by rw [F8.out]; unfold refuseP; rw [if_pos F8.out]; rfl, ?_⟩
      exact set11 HB.out (by rw [Hg.out]; omega) _ _ _ _ _ _ _ _ _ _ _
end Go.Proofs.Ytjpdamighffgfaa.pk
