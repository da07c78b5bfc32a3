/- RcRc, RecordGets in one. -/
import Derived.Test.YtbcgnacfhpahkaaDoorRcGet
import Derived.Test.YtbcgnacfhpahkaaDoorRcZ
namespace Go.Proofs.YtbcgnacfhpahkaaDoor.rc
set_option maxRecDepth 20000
open Go.RowKit Mem OM LM DM
set_option linter.unusedVariables false
set_option linter.unusedSimpArgs false
attribute [local go_sem] Oper.semAt_some
theorem textR_len (l : List UInt8) : (oct.textR l 256).1.length ≤ 256 := by
  unfold oct.textR
  split
  · split
    · simp
    · split
      · simp
      · simp only [List.length_take]
        omega
  · simp
theorem getS_two2 (l : List UInt8) : (getS l).e = 0 ∨ getS l = zeroG := by
  unfold getS
  split
  · exact Or.inl rfl
  · exact Or.inr rfl
theorem numS_range {l l1 : List UInt8} {f f1 : Bool} {k : Int} (h : numS l f = (k, l1, f1)) : 0 ≤ k ∧ k ≤ 9223372036854775807 := by
  unfold numS at h
  simp only [Prod.mk.injEq] at h
  have := (oct.lk_size l).2.1
  omega
theorem GD.new {w W1 W2 : World} {A : Option Addr} {n c B : Nat} {L : List UInt8} (h : Rd w B A n (bv L)) (hB : B ≤ w.heap.size) (hn : n ≤ 1048576) (hc : n ≤ c) (t t2 : TypeId) (h1 : w.alloc (.cells noteZ.toArray t) = W1) (h2 : W1.alloc (.cells #[.slice A n c, .int .i64 0] t2) = W2) :
    GD w ((W2.alloc (.cells noteZ.toArray t)).setCells W2.heap.size 0 noteZ) W1.heap.size w.heap.size W2.heap.size A n c L L noteZ := by
  have b1 : Below w.heap.size w W1 := by rw [← h1]; exact (Below.refl _ _).alloc (Nat.le_refl _) _
  have b2 : Below W1.heap.size W1 W2 := by rw [← h2]; exact (Below.refl _ _).alloc (Nat.le_refl _) _
  have s1 : W1.heap.size = w.heap.size + 1 := by rw [← h1]; simp
  have s2 : W2.heap.size = W1.heap.size + 1 := by rw [← h2]; simp
  have hr := dg.range_new W1 [.slice A n c, .int .i64 0] t2
  have ht := dg.there_new W1 [.slice A n c, .int .i64 0] t2
  rw [show ([Value.slice A n c, .int .i64 0] : List Value).toArray = #[.slice A n c, .int .i64 0] from rfl, h2] at hr ht
  have c0 := hr 0 _ rfl
  have c1 := hr 1 _ rfl
  have f1 := (ht 1 (by simp)).2
  simp only [Nat.zero_add] at c0 c1 f1
  have hd : DR W2 W1.heap.size A n c L 0 := ⟨c0, c1, f1, by omega, Nat.zero_le _, ((h.below b1 hB).below b2 (by omega)).more (by omega), hc, hn⟩
  have tr0 := dg.there_new w noteZ t
  rw [noteZ_len, h1] at tr0
  have tr2 := dg.there_below tr0 b2 (by omega) (by omega)
  have b3 : Below W2.heap.size W2 (W2.alloc (.cells noteZ.toArray t)) := (Below.refl _ _).alloc (Nat.le_refl _) _
  have th3 := dg.there_new W2 noteZ t
  rw [noteZ_len] at th3
  have s3 : (W2.alloc (.cells noteZ.toArray t)).heap.size = W2.heap.size + 1 := by simp
  have k3 := keep_o (dg.Keep1.sets W2.heap.size noteZ 0 (W2.alloc (.cells noteZ.toArray t)))
  have tr3 := dg.there_below tr2 b3 (by omega) (by omega)
  have bl : Below w.heap.size w (W2.alloc (.cells noteZ.toArray t)) := (b1.trans (b2.mono (by omega))).trans (b3.mono (by omega))
  have hdl : DL (W2.alloc (.cells noteZ.toArray t)) W1.heap.size A n c L L := ⟨0, hd.below b3, by simp⟩
  exact ⟨hdl.other k3 (by omega), World.rangeAt_setCells_same _ _ 0 noteZ (by rw [noteZ_len]; exact th3), World.there_setCells th3 _ 0 _, World.there_setCells tr3 _ 0 _, k3.below bl (by omega) (by omega), Nat.le_refl _, by omega, by omega, Nat.lt_of_lt_of_le (by omega) k3.size⟩
set_option maxHeartbeats 8000000 in
theorem refGet_any (A : Option Addr) (n c B : Nat) (L : List UInt8) (w : World) (h : Rd w B A n (bv L)) (hB : B ≤ w.heap.size) (hn : n ≤ 1048576) (hc : n ≤ c) :
    Calls Tryd.prog 27 #[.slice A n c] w (GetPost L w) := by
  obtain ⟨W1, hW1⟩ : ∃ z, w.alloc (.cells noteZ.toArray 28) = z := ⟨_, rfl⟩
  obtain ⟨W2, hW2⟩ : ∃ z, W1.alloc (.cells #[.slice A n c, .int .i64 0] 76) = z := ⟨_, rfl⟩
  have h0 := GD.new h hB hn hc 28 76 hW1 hW2
  have hth : W2.heap.size < W2.heap.size + 1 → (W2.alloc (.cells noteZ.toArray 28)).there W2.heap.size 0 40 := fun _ => by have := dg.there_new W2 noteZ 28; rwa [noteZ_len] at this
  have hbz := fun y => build_note0 y
  obtain ⟨ZA, hZA⟩ : ∃ z, noteZ.toArray = z := ⟨_, rfl⟩
  simp only [hZA] at hbz
  have hzs : ZA.size = 40 := by rw [← hZA]; exact noteZ_len
  have hzo : ZA.all (·.oneCell') = true := by rw [← hZA]; exact all_oneCell_toArray (show ∀ x ∈ noteV 0 (fun _ => 0) 0 0 z32 none 0 0, x.oneCell' = true from noteV_one)
  have hinfZA : (Tryd.prog.info? 28).map (·.size) = some ZA.size := by rw [hzs]; exact info_note
  have hzl : ZA.toList = noteZ := by rw [← hZA]
  have HZ := Lib.hid hZA
  have H0 := Lib.hid h0
  have HH := Lib.hid h
  clear hZA h0 h
  unfold GetPost
  go_enter Tryd.func27, Tryd.ntmps27
  go_upto_region 1 with fail
  show Code.wp _ _ _ _ (w.alloc (.cells noteZ.toArray 28))
  rw [hW1]
  go_upto_region 2 with fail
  try rw [hW2]
  go_upto_region 3 with (first
    | (refine lz.wp_build rfl _ _ rfl (.agg ZA) (by simp only [List.map_toArray, List.map_nil]; exact hbz _) ?_)
    | (refine wpList_store_mid rfl 28 (.tmp 5) (.tmp 16) rfl W2.heap.size 0 ZA rfl rfl (by rw [hzs]; exact hth (Nat.lt_succ_self _)) hinfZA hzo ?_)
    | fail)
  show Code.wp _ _ _ _ ((W2.alloc (.cells noteZ.toArray 28)).setCells W2.heap.size 0 ZA.toList)
  rw [hzl]
  obtain ⟨w3, hw3⟩ : ∃ z, (W2.alloc (.cells noteZ.toArray 28)).setCells W2.heap.size 0 noteZ = z := ⟨_, rfl⟩
  obtain ⟨b, hb⟩ : ∃ z, W1.heap.size = z := ⟨_, rfl⟩
  obtain ⟨r, hr⟩ : ∃ z, w.heap.size = z := ⟨_, rfl⟩
  obtain ⟨g, hg⟩ : ∃ z, W2.heap.size = z := ⟨_, rfl⟩
  rw [hw3, hb, hr, hg] at H0
  rw [hg] at hw3
  try rw [hb]
  try rw [hr]
  try rw [hg]
  rw [hw3]
  try simp only [Act.put]
  clear hw3 hth hW1 hW2
  obtain ⟨⟨N, l1, f1⟩, e1⟩ : ∃ z, numS L false = z := ⟨_, rfl⟩
  obtain ⟨⟨F, l2, f2⟩, e2⟩ : ∃ z, numS l1 f1 = z := ⟨_, rfl⟩
  have HN1 := Lib.hid (dnum_l b A n c L L false w3 H0.out.rd e1)
  have hn2 := fun (y : World) (hy : DL y b A n c L l1) => dnum_l b A n c L l1 f1 y hy e2
  have HN2 := Lib.hid hn2
  have HE := Lib.hid (And.intro e1 e2)
  clear e1 e2 hn2
  go_upto_region 4 with (go_at_call 50; refine (HN1.out).mono ?_; rintro e w4 ⟨er4, rfl, hd4, hk4⟩; have H4 := Lib.hid (H0.out.call hd4 hk4); clear hd4 hk4; obtain ⟨v4, z4, y4⟩ := H4.out.at 0 (by omega))
  have H5 := Lib.hid (H4.out.set 0 (.int .i64 N))
  rw [show noteZ.set 0 (.int .i64 N) = noteV N (fun _ => 0) 0 0 z32 none 0 0 from rfl] at H5
  obtain ⟨w5, hw5⟩ : ∃ z, w4.setCell ⟨g, 0, none⟩ (.int .i64 N) = z := ⟨_, rfl⟩
  rw [hw5] at H5 ⊢
  clear H4 z4 y4 hw5 HN1
  have hb6 : Below w5.heap.size w5 (w5.alloc (.cells (nv [1, 2, 3, 4, 5, 6]).toArray 3)) := (Below.refl _ _).alloc (Nat.le_refl _) _
  have H6 := Lib.hid (H5.out.belw hb6)
  have hs6 := dg.range_new w5 (nv [1, 2, 3, 4, 5, 6]) 3
  have hg5 := H5.out.hg
  have hz6 : w5.heap.size < (w5.alloc (.cells (nv [1, 2, 3, 4, 5, 6]).toArray 3)).heap.size := by simp
  have hbg5 := H5.out.hbg
  clear hb6
  go_wp2_with fail
  show Code.wp _ _ _ _ (w5.alloc (.cells (nv [1, 2, 3, 4, 5, 6]).toArray 3))
  obtain ⟨w6, hw6⟩ : ∃ z, w5.alloc (.cells (nv [1, 2, 3, 4, 5, 6]).toArray 3) = z := ⟨_, rfl⟩
  rw [hw6] at H6 hs6 hz6 ⊢
  obtain ⟨s, hs⟩ : ∃ z, w5.heap.size = z := ⟨_, rfl⟩
  rw [hs] at hs6 hz6 hg5 ⊢
  clear hw6 hs H5
  obtain ⟨vF, hvF⟩ : ∃ v : Nat → Int, v = fun j => if j = 1 then F else 0 := ⟨_, rfl⟩
  obtain ⟨vZ, hvZ⟩ : ∃ v : Nat → Int, v = fun _ => 0 := ⟨_, rfl⟩
  rw [← hvZ] at H6
  have HVF := Lib.hid (And.intro hvF hvZ)
  clear hvF hvZ
  go_loopw [25] (fun i wr => ∃ k : Nat, i = .int .i64 k ∧ k ≤ 6 ∧ Hid (GD w wr b r g A n c L (if 1 ≤ N ∧ N ≤ (k : Int) then l2 else l1) (noteV N (if 1 ≤ N ∧ N ≤ (k : Int) then vF else vZ) 0 0 z32 none 0 0) ∧ wr.rangeAt s 0 (nv [1, 2, 3, 4, 5, 6]) ∧ w6.heap.size ≤ wr.heap.size)) (fun i _ => 6 - (intOf i).toNat)
  case atStart => exact ⟨0, rfl, Nat.zero_le _, Lib.hid ⟨by rw [if_neg (by omega), if_neg (by omega)]; exact H6.out, hs6, Nat.le_refl _⟩⟩
  case round =>
    obtain ⟨k, rfl, hk, HR⟩ := hrel
    by_cases hkl : k < 6
    · have hki : (k : Int) < 6 := by omega
      have hcp : wr.cell? ⟨s, k, none⟩ = some (.int .i64 ((k : Int) + 1)) := by have := HR.out.2.1 k _ (six_at k hkl); rwa [Nat.zero_add] at this
      have c0 : wr.cell? ⟨g, 0, none⟩ = some (.int .i64 N) := HR.out.1.rng 0 _ rfl
      have hsz := HR.out.2.2
      by_cases hN : N = (k : Int) + 1
      · have hNb : (N == (k : Int) + 1) = true := beq_iff_eq.2 hN
        have hG := HR.out.1
        rw [if_neg (by omega), if_neg (by omega)] at hG
        have HG := Lib.hid hG
        have HNX := Lib.hid (HN2.out wr hG.rd)
        have HNK := Lib.hid hN
        clear hG hN
        go_wp2_with (go_at_call 50; refine (HNX.out).mono ?_; rintro e w8 ⟨er8, rfl, hd8, hk8⟩; have H8 := Lib.hid (HG.out.call hd8 hk8); have hr8 := range_keep1 HR.out.2.1 hk8 (by omega) (by have := HR.out.1.hbg; omega); have hs8 := hk8.size; clear hd8 hk8; obtain ⟨v8, z8, y8⟩ := H8.out.at 1 (by omega))
        have H9 := Lib.hid (H8.out.set 1 (.int .i64 F))
        rw [noteV_set _ _ _ _ _ _ _ _ 1 F (by omega) (by omega)] at H9
        have hvv : (fun j => if j = 1 then F else vZ j) = vF := by rw [HVF.out.1, HVF.out.2]
        rw [hvv] at H9
        have hr9 : (w8.setCell ⟨g, 1, none⟩ (.int .i64 F)).rangeAt s 0 (nv [1, 2, 3, 4, 5, 6]) := range_keep1 hr8 (oct.Keep1.set w8 g 1 (.int .i64 F)) (by omega) (by omega)
        have HR9 := Lib.hid hr9
        clear hr9 hr8
        go_roundw
        case rel => exact ⟨k + 1, by go_num, by omega, Lib.hid ⟨by have hN := HNK.out; rw [if_pos (by omega), if_pos (by omega)]; exact H9.out, HR9.out, by rw [World.size_setCell]; omega⟩⟩
        case measure => simp [intOf]; omega
      · have hNb : (N == (k : Int) + 1) = false := beq_eq_false_iff_ne.2 hN
        have hiff : (1 ≤ N ∧ N ≤ ((k + 1 : Nat) : Int)) ↔ (1 ≤ N ∧ N ≤ (k : Int)) := by omega
        go_wp2_with fail
        go_roundw
        case rel => exact ⟨k + 1, by go_num, by omega, Lib.hid ⟨by simp only [hiff]; exact HR.out.1, HR.out.2.1, HR.out.2.2⟩⟩
        case measure => simp [intOf]; omega
    · obtain rfl : k = 6 := by omega
      have hW := HR.out.1
      clear HR H6 HN2
      by_cases k3 : N = 3 ∨ N = 4
      · rw [if_pos (by omega), if_pos (by omega)] at hW
        have HW := Lib.hid hW
        have c00 : wr.cell? ⟨g, 0, none⟩ = some (.int .i64 N) := hW.rng 0 _ rfl
        have n1 : (N == 1) = false := beq_eq_false_iff_ne.2 (by omega)
        have n2 : (N == 2) = false := beq_eq_false_iff_ne.2 (by omega)
        have n5 : (N == 5) = false := beq_eq_false_iff_ne.2 (by omega)
        have n6 : (N == 6) = false := beq_eq_false_iff_ne.2 (by omega)
        have hng : numsG L = (N, vF, l2, f2) := by unfold numsG; rw [HE.out.1]; simp only; rw [flds_3 N k3]; simp only [readF, HE.out.2]; rw [HVF.out.1]
        have hrg : recG L = ⟨0, 0, z32, [], l2, f2⟩ := by unfold recG; rw [hng]; simp only; rw [if_neg (by omega)]
        have HNG := Lib.hid hng
        have HRG := Lib.hid hrg
        have HON : Hid (Ow wr w.heap.size 5 none 0 0 (bv [])) := Lib.hid (Ow.nil _ _ _)
        clear hW hng hrg k3
        go_upto_region 25 with fail
        have hrng := HW.out.rng
        have hnl := noteV_len (N := N) (v := vF) (K := 0) (S := 0) (A := none) (n := 0) (c := 0) z32_len2
        have hno : ∀ x ∈ noteV N vF (0) (0) (z32) (none) (0) (0), x.oneCell' = true := noteV_one
        have hxn : (([] : List UInt8)).length = 0 := by have := HON.out.len; rw [bv_len] at this; exact this
        have hNr : 0 ≤ N ∧ N ≤ 9223372036854775807 := numS_range HE.out.1
        have hFr := numS_range HE.out.2
        have hv1 : -9223372036854775808 ≤ vF 1 ∧ vF 1 ≤ 9223372036854775807 := by rw [HVF.out.1]; simp; omega
        have hv2 : -9223372036854775808 ≤ vF 2 ∧ vF 2 ≤ 9223372036854775807 := by rw [HVF.out.1]; simp
        have hv3 : -9223372036854775808 ≤ vF 3 ∧ vF 3 ≤ 9223372036854775807 := by rw [HVF.out.1]; simp
        have hv4 : -9223372036854775808 ≤ vF 4 ∧ vF 4 ≤ 9223372036854775807 := by rw [HVF.out.1]; simp
        have hput := fun (y : World) (hy : Below wr.heap.size wr y) => refPut_any N (vF 1) (vF 2) (vF 3) (vF 4) (0) (0) (z32) z32_len2 (none) (0) (0) y.heap.size (([] : List UInt8)) y ((HON.out.below hy (Nat.le_refl _)).rd) (Nat.le_refl _) (by omega) (by omega) (by omega) (by omega) (numL_range hv1 hv2 hv3 hv4)
        unfold MadeE at hput
        obtain ⟨NL, hNL⟩ : ∃ z, noteV N vF (0) (0) (z32) (none) (0) (0) = z := ⟨_, rfl⟩
        have hNL2 : noteL N (vF 1) (vF 2) (vF 3) (vF 4) (0) (0) (z32) (none) (0) (0) = NL := hNL
        rw [hNL] at hrng hnl hno
        simp only [hNL2] at hput
        have hinfN : (Tryd.prog.info? 28).map (·.size) = some NL.length := by rw [hnl]; exact info_note
        have hinfZ : (Tryd.prog.info? 28).map (·.size) = some noteZ.length := by rw [noteZ_len]; exact info_note
        obtain ⟨NA, hNA⟩ : ∃ z, NL.toArray = z := ⟨_, rfl⟩
        simp only [hNA] at hput
        have hnal : NA.toList = NL := by rw [← hNA]
        have hnas : NA.size = 40 := by rw [← hNA]; exact hnl
        have hnao : NA.all (·.oneCell') = true := by rw [← hNA]; exact all_oneCell_toArray hno
        have hinfNA : (Tryd.prog.info? 28).map (·.size) = some NA.size := by rw [hnas]; exact info_note
        have HNA := Lib.hid hNA
        have HNL := Lib.hid hNL2
        have hqr : r < wr.heap.size := by have := HW.out.hg; have := HW.out.hbg; have := HW.out.hrb; omega
        clear hNA hNL hNL2 hno
        rcases fitE_two2 N (vF 1) (vF 2) (vF 3) (vF 4) (0) (0) (z32) (([] : List UInt8)).length with hfe | hfe
        · have hpr : putR N (vF 1) (vF 2) (vF 3) (vF 4) (0) (0) (z32) (([] : List UInt8)) = (putB N (vF 1) (vF 2) (vF 3) (vF 4) (0) (0) (z32) (([] : List UInt8)), 0) := by unfold putR; rw [if_pos hfe]
          have hgp := getS_put N (vF 1) (vF 2) (vF 3) (vF 4) (0) (0) (z32) (([] : List UInt8)) z32_len2 hfe
          have hgo := getS_ok (l := L)
          have hgt := getS_two2 L
          have hgy := fun h => getS_yes HNG.out HRG.out h
          have hgn := fun h => getS_no HNG.out HRG.out h
          rw [hpr] at hput
          simp only at hput hgy hgn
          obtain ⟨pb, hpb⟩ : ∃ z, putB N (vF 1) (vF 2) (vF 3) (vF 4) (0) (0) (z32) (([] : List UInt8)) = z := ⟨_, rfl⟩
          rw [hpb] at hput hgp
          have HPUT := Lib.hid (hput wr (Below.refl _ _))
          have hLr := fun (y : World) (hy : Below w.heap.size w y) => HH.out.below hy hB
          have HLR := Lib.hid hLr
          clear hput hpr hLr
          go_upto_region 26 with (first
            | (refine wpList_load_mid_g rfl 28 (.tmp 5) rfl g 0 rfl NL _ hrng Tryd.underlying28 rfl hinfN ?_; rw [HNA.out])
            | (go_at_call 25; refine (HPUT.out).mono ?_; rintro e wp ⟨Ap, np, cp, rfl, hop, hbp⟩)
            | fail)
          have trp := dg.there_below HW.out.tr hbp hqr hqr
          have hrngp := dg.range_below hrng hbp HW.out.hg
          have hbelp := (HW.out.bel).trans (hbp.mono HW.out.bel.size)
          have r1 := run_string Tryd.underlying24 Tryd.underlying5 Tryd.underlying9 hop.rd cp
          have r2 := run_string Tryd.underlying24 Tryd.underlying5 Tryd.underlying9 (HLR.out wp hbelp) c
          by_cases hpl : pb = L
          · have hGL : getS L = ⟨N, vF 1, vF 2, vF 3, vF 4, 0, 0, z32, ([] : List UInt8), 0⟩ := by rw [← hpl]; exact hgp
            rw [hpl] at r1
            have HGL := Lib.hid hGL
            have HOB := Lib.hid (HON.out.below hbp (Nat.le_refl _))
            clear hgp hgo hgt hgy hgn hGL hpl hop
            go_wp2_with (first
              | (refine wpList_load_mid_g rfl 28 (.tmp 5) rfl g 0 rfl NL _ hrngp Tryd.underlying28 rfl hinfN ?_; rw [HNA.out])
              | (refine wpList_store_mid rfl 28 (.tmp 2) (.tmp 127) rfl r 0 NA rfl rfl (by rw [hnas]; exact trp) hinfNA hnao ?_; rw [hnal])
              | fail)
            try simp only [Exit.inBlock, Exit.then]
            refine bodyPost_ret (lz.results_ct rfl _ ⟨r, 0, none⟩ _ rfl (run_loadVar_mid (P := Tryd.prog) _ r 0 28 NL _ (World.rangeAt_setCells_same wp r 0 NL (by rw [hnl]; exact trp)) Tryd.underlying28 rfl hinfN)) rfl ?_
            rw [HGL.out]
            have k9 := keep_o (dg.Keep1.sets r NL 0 wp)
            refine ⟨none, 0, 0, by (try simp only); rw [HNL.out, HNA.out]; rfl, ?_, k9.below hbelp (by have := hbelp.size; omega) (by omega)⟩
            exact Ow.nil _ _ _
          · have hG : getS L = zeroG := by
              rcases hgt with h0 | h0
              · exfalso
                have hy := hgy (by refine Classical.byContradiction fun hcon => ?_; rw [hgn hcon] at h0; exact absurd h0 (by decide))
                have := (hgo h0).1
                rw [hy] at this
                exact hpl (by rw [← hpb]; exact this)
              · exact h0
            have hb1 : ((bs pb).toList == (bs L).toList) = false := by rw [oct.bs_toList, oct.bs_toList]; exact beq_eq_false_iff_ne.2 hpl
            clear hgp hgo hgt hgy hgn hpb hpl hop
            go_wp2_with (first
              | (refine lz.wp_build rfl _ _ rfl (.agg ZA) (by simp only [List.map_toArray, List.map_nil]; exact hbz _) ?_)
              | (refine wpList_store_mid rfl 28 (.tmp 2) (.tmp 126) rfl r 0 ZA rfl rfl (by rw [hzs]; exact trp) hinfZA hzo ?_; rw [hzl])
              | fail)
            try simp only [Exit.inBlock, Exit.then]
            refine bodyPost_ret (lz.results_ct rfl _ ⟨r, 0, none⟩ _ rfl (run_loadVar_mid (P := Tryd.prog) _ r 0 28 noteZ _ (World.rangeAt_setCells_same wp r 0 noteZ (by rw [noteZ_len]; exact trp)) Tryd.underlying28 rfl hinfZ)) rfl ?_
            rw [hG]
            exact ⟨none, 0, 0, rfl, Ow.nil _ _ _, (keep_o (dg.Keep1.sets r noteZ 0 wp)).below hbelp (by have := hbelp.size; omega) (by omega)⟩
        · have hpr : putR N (vF 1) (vF 2) (vF 3) (vF 4) (0) (0) (z32) (([] : List UInt8)) = ([], 100) := by unfold putR; rw [if_neg (by omega)]
          have hG := getS_no HNG.out HRG.out (by rintro ⟨_, _, h3⟩; (try simp only at h3); rw [hfe] at h3; cases h3)
          rw [hpr] at hput
          have HPUT := Lib.hid (hput wr (Below.refl _ _))
          clear hput hpr
          go_upto_region 26 with (first
            | (refine wpList_load_mid_g rfl 28 (.tmp 5) rfl g 0 rfl NL _ hrng Tryd.underlying28 rfl hinfN ?_; rw [HNA.out])
            | (go_at_call 25; refine (HPUT.out).mono ?_; rintro e wp ⟨Ap, np, cp, rfl, hop, hbp⟩)
            | fail)
          have trp := dg.there_below HW.out.tr hbp hqr hqr
          have hbelp := (HW.out.bel).trans (hbp.mono HW.out.bel.size)
          go_wp2_with (first
            | (refine lz.wp_build rfl _ _ rfl (.agg ZA) (by simp only [List.map_toArray, List.map_nil]; exact hbz _) ?_)
            | (refine wpList_store_mid rfl 28 (.tmp 2) (.tmp 126) rfl r 0 ZA rfl rfl (by rw [hzs]; exact trp) hinfZA hzo ?_; rw [hzl])
            | fail)
          try simp only [Exit.inBlock, Exit.then]
          refine bodyPost_ret (lz.results_ct rfl _ ⟨r, 0, none⟩ _ rfl (run_loadVar_mid (P := Tryd.prog) _ r 0 28 noteZ _ (World.rangeAt_setCells_same wp r 0 noteZ (by rw [noteZ_len]; exact trp)) Tryd.underlying28 rfl hinfZ)) rfl ?_
          rw [hG]
          exact ⟨none, 0, 0, rfl, Ow.nil _ _ _, (keep_o (dg.Keep1.sets r noteZ 0 wp)).below hbelp (by have := hbelp.size; omega) (by omega)⟩
      by_cases k5 : N = 5 ∨ N = 6
      · rw [if_pos (by omega), if_pos (by omega)] at hW
        have HW := Lib.hid hW
        have c00 : wr.cell? ⟨g, 0, none⟩ = some (.int .i64 N) := hW.rng 0 _ rfl
        have n1 : (N == 1) = false := beq_eq_false_iff_ne.2 (by omega)
        have n2 : (N == 2) = false := beq_eq_false_iff_ne.2 (by omega)
        have n56 : (N == 5) = true ∨ (N == 5) = false ∧ (N == 6) = true := by
          rcases k5 with h | h
          · exact Or.inl (beq_iff_eq.2 h)
          · exact Or.inr ⟨beq_eq_false_iff_ne.2 (by omega), beq_iff_eq.2 h⟩
        obtain ⟨⟨Ix, l3, f3⟩, e3⟩ : ∃ z, numS l2 f2 = z := ⟨_, rfl⟩
        have hng : numsG L = (N, (fun j => if j = 4 then Ix else vF j), l3, f3) := by unfold numsG; rw [HE.out.1]; simp only; rw [flds_2 N (Or.inr k5)]; simp only [readF, HE.out.2, e3]; rw [HVF.out.1]
        have hrg : recG L = ⟨0, 0, z32, [], l3, f3⟩ := by unfold recG; rw [hng]; simp only; rw [if_neg (by omega)]
        have HNG := Lib.hid hng
        have HRG := Lib.hid hrg
        have HE3 := Lib.hid e3
        have HNX := Lib.hid (dnum_l b A n c L l2 f2 wr hW.rd e3)
        clear hW hng hrg k5 e3
        have hgo : ∀ (Z : Prop), (Z → Z) := fun _ h => h
        go_upto_region 13 with fail
        rcases n56 with n5 | ⟨n5, n6⟩
        · go_upto_region 15 with (go_at_call 50; refine (HNX.out).mono ?_; rintro e w8 ⟨er8, rfl, hd8, hk8⟩; have H8 := Lib.hid (HW.out.call hd8 hk8); clear hd8 hk8; obtain ⟨v8, z8, y8⟩ := H8.out.at 4 (by omega))
          have H9 := Lib.hid (H8.out.set 4 (.int .i64 Ix))
          rw [noteV_set _ _ _ _ _ _ _ _ 4 Ix (by omega) (by omega)] at H9
          obtain ⟨w9, hw9⟩ : ∃ z, w8.setCell ⟨g, 4, none⟩ (.int .i64 Ix) = z := ⟨_, rfl⟩
          rw [hw9] at H9 ⊢
          clear hw9 z8 y8 H8 HW c00
          obtain ⟨vI, hvI⟩ : ∃ v : Nat → Int, v = fun j => if j = 4 then Ix else vF j := ⟨_, rfl⟩
          rw [← hvI] at H9 HNG
          have HVI := Lib.hid hvI
          have d00 : w9.cell? ⟨g, 0, none⟩ = some (.int .i64 N) := H9.out.rng 0 _ rfl
          have HON : Hid (Ow w9 w.heap.size 5 none 0 0 (bv [])) := Lib.hid (Ow.nil _ _ _)
          clear hvI
          go_upto_region 25 with fail
          have hrng := H9.out.rng
          have hnl := noteV_len (N := N) (v := vI) (K := 0) (S := 0) (A := none) (n := 0) (c := 0) z32_len2
          have hno : ∀ x ∈ noteV N vI (0) (0) (z32) (none) (0) (0), x.oneCell' = true := noteV_one
          have hxn : (([] : List UInt8)).length = 0 := by have := HON.out.len; rw [bv_len] at this; exact this
          have hNr : 0 ≤ N ∧ N ≤ 9223372036854775807 := numS_range HE.out.1
          have hFr := numS_range HE.out.2
          have hIr := numS_range HE3.out
          have hv1 : -9223372036854775808 ≤ vI 1 ∧ vI 1 ≤ 9223372036854775807 := by rw [HVI.out, HVF.out.1]; simp; omega
          have hv2 : -9223372036854775808 ≤ vI 2 ∧ vI 2 ≤ 9223372036854775807 := by rw [HVI.out, HVF.out.1]; simp
          have hv3 : -9223372036854775808 ≤ vI 3 ∧ vI 3 ≤ 9223372036854775807 := by rw [HVI.out, HVF.out.1]; simp
          have hv4 : -9223372036854775808 ≤ vI 4 ∧ vI 4 ≤ 9223372036854775807 := by rw [HVI.out, HVF.out.1]; simp; omega
          have hput := fun (y : World) (hy : Below w9.heap.size w9 y) => refPut_any N (vI 1) (vI 2) (vI 3) (vI 4) (0) (0) (z32) z32_len2 (none) (0) (0) y.heap.size (([] : List UInt8)) y ((HON.out.below hy (Nat.le_refl _)).rd) (Nat.le_refl _) (by omega) (by omega) (by omega) (by omega) (numL_range hv1 hv2 hv3 hv4)
          unfold MadeE at hput
          obtain ⟨NL, hNL⟩ : ∃ z, noteV N vI (0) (0) (z32) (none) (0) (0) = z := ⟨_, rfl⟩
          have hNL2 : noteL N (vI 1) (vI 2) (vI 3) (vI 4) (0) (0) (z32) (none) (0) (0) = NL := hNL
          rw [hNL] at hrng hnl hno
          simp only [hNL2] at hput
          have hinfN : (Tryd.prog.info? 28).map (·.size) = some NL.length := by rw [hnl]; exact info_note
          have hinfZ : (Tryd.prog.info? 28).map (·.size) = some noteZ.length := by rw [noteZ_len]; exact info_note
          obtain ⟨NA, hNA⟩ : ∃ z, NL.toArray = z := ⟨_, rfl⟩
          simp only [hNA] at hput
          have hnal : NA.toList = NL := by rw [← hNA]
          have hnas : NA.size = 40 := by rw [← hNA]; exact hnl
          have hnao : NA.all (·.oneCell') = true := by rw [← hNA]; exact all_oneCell_toArray hno
          have hinfNA : (Tryd.prog.info? 28).map (·.size) = some NA.size := by rw [hnas]; exact info_note
          have HNA := Lib.hid hNA
          have HNL := Lib.hid hNL2
          have hqr : r < w9.heap.size := by have := H9.out.hg; have := H9.out.hbg; have := H9.out.hrb; omega
          clear hNA hNL hNL2 hno
          rcases fitE_two2 N (vI 1) (vI 2) (vI 3) (vI 4) (0) (0) (z32) (([] : List UInt8)).length with hfe | hfe
          · have hpr : putR N (vI 1) (vI 2) (vI 3) (vI 4) (0) (0) (z32) (([] : List UInt8)) = (putB N (vI 1) (vI 2) (vI 3) (vI 4) (0) (0) (z32) (([] : List UInt8)), 0) := by unfold putR; rw [if_pos hfe]
            have hgp := getS_put N (vI 1) (vI 2) (vI 3) (vI 4) (0) (0) (z32) (([] : List UInt8)) z32_len2 hfe
            have hgo := getS_ok (l := L)
            have hgt := getS_two2 L
            have hgy := fun h => getS_yes HNG.out HRG.out h
            have hgn := fun h => getS_no HNG.out HRG.out h
            rw [hpr] at hput
            simp only at hput hgy hgn
            obtain ⟨pb, hpb⟩ : ∃ z, putB N (vI 1) (vI 2) (vI 3) (vI 4) (0) (0) (z32) (([] : List UInt8)) = z := ⟨_, rfl⟩
            rw [hpb] at hput hgp
            have HPUT := Lib.hid (hput w9 (Below.refl _ _))
            have hLr := fun (y : World) (hy : Below w.heap.size w y) => HH.out.below hy hB
            have HLR := Lib.hid hLr
            clear hput hpr hLr
            go_upto_region 26 with (first
              | (refine wpList_load_mid_g rfl 28 (.tmp 5) rfl g 0 rfl NL _ hrng Tryd.underlying28 rfl hinfN ?_; rw [HNA.out])
              | (go_at_call 25; refine (HPUT.out).mono ?_; rintro e wp ⟨Ap, np, cp, rfl, hop, hbp⟩)
              | fail)
            have trp := dg.there_below H9.out.tr hbp hqr hqr
            have hrngp := dg.range_below hrng hbp H9.out.hg
            have hbelp := (H9.out.bel).trans (hbp.mono H9.out.bel.size)
            have r1 := run_string Tryd.underlying24 Tryd.underlying5 Tryd.underlying9 hop.rd cp
            have r2 := run_string Tryd.underlying24 Tryd.underlying5 Tryd.underlying9 (HLR.out wp hbelp) c
            by_cases hpl : pb = L
            · have hGL : getS L = ⟨N, vI 1, vI 2, vI 3, vI 4, 0, 0, z32, ([] : List UInt8), 0⟩ := by rw [← hpl]; exact hgp
              rw [hpl] at r1
              have HGL := Lib.hid hGL
              have HOB := Lib.hid (HON.out.below hbp (Nat.le_refl _))
              clear hgp hgo hgt hgy hgn hGL hpl hop
              go_wp2_with (first
                | (refine wpList_load_mid_g rfl 28 (.tmp 5) rfl g 0 rfl NL _ hrngp Tryd.underlying28 rfl hinfN ?_; rw [HNA.out])
                | (refine wpList_store_mid rfl 28 (.tmp 2) (.tmp 127) rfl r 0 NA rfl rfl (by rw [hnas]; exact trp) hinfNA hnao ?_; rw [hnal])
                | fail)
              try simp only [Exit.inBlock, Exit.then]
              refine bodyPost_ret (lz.results_ct rfl _ ⟨r, 0, none⟩ _ rfl (run_loadVar_mid (P := Tryd.prog) _ r 0 28 NL _ (World.rangeAt_setCells_same wp r 0 NL (by rw [hnl]; exact trp)) Tryd.underlying28 rfl hinfN)) rfl ?_
              rw [HGL.out]
              have k9 := keep_o (dg.Keep1.sets r NL 0 wp)
              refine ⟨none, 0, 0, by (try simp only); rw [HNL.out, HNA.out]; rfl, ?_, k9.below hbelp (by have := hbelp.size; omega) (by omega)⟩
              exact Ow.nil _ _ _
            · have hG : getS L = zeroG := by
                rcases hgt with h0 | h0
                · exfalso
                  have hy := hgy (by refine Classical.byContradiction fun hcon => ?_; rw [hgn hcon] at h0; exact absurd h0 (by decide))
                  have := (hgo h0).1
                  rw [hy] at this
                  exact hpl (by rw [← hpb]; exact this)
                · exact h0
              have hb1 : ((bs pb).toList == (bs L).toList) = false := by rw [oct.bs_toList, oct.bs_toList]; exact beq_eq_false_iff_ne.2 hpl
              clear hgp hgo hgt hgy hgn hpb hpl hop
              go_wp2_with (first
                | (refine lz.wp_build rfl _ _ rfl (.agg ZA) (by simp only [List.map_toArray, List.map_nil]; exact hbz _) ?_)
                | (refine wpList_store_mid rfl 28 (.tmp 2) (.tmp 126) rfl r 0 ZA rfl rfl (by rw [hzs]; exact trp) hinfZA hzo ?_; rw [hzl])
                | fail)
              try simp only [Exit.inBlock, Exit.then]
              refine bodyPost_ret (lz.results_ct rfl _ ⟨r, 0, none⟩ _ rfl (run_loadVar_mid (P := Tryd.prog) _ r 0 28 noteZ _ (World.rangeAt_setCells_same wp r 0 noteZ (by rw [noteZ_len]; exact trp)) Tryd.underlying28 rfl hinfZ)) rfl ?_
              rw [hG]
              exact ⟨none, 0, 0, rfl, Ow.nil _ _ _, (keep_o (dg.Keep1.sets r noteZ 0 wp)).below hbelp (by have := hbelp.size; omega) (by omega)⟩
          · have hpr : putR N (vI 1) (vI 2) (vI 3) (vI 4) (0) (0) (z32) (([] : List UInt8)) = ([], 100) := by unfold putR; rw [if_neg (by omega)]
            have hG := getS_no HNG.out HRG.out (by rintro ⟨_, _, h3⟩; (try simp only at h3); rw [hfe] at h3; cases h3)
            rw [hpr] at hput
            have HPUT := Lib.hid (hput w9 (Below.refl _ _))
            clear hput hpr
            go_upto_region 26 with (first
              | (refine wpList_load_mid_g rfl 28 (.tmp 5) rfl g 0 rfl NL _ hrng Tryd.underlying28 rfl hinfN ?_; rw [HNA.out])
              | (go_at_call 25; refine (HPUT.out).mono ?_; rintro e wp ⟨Ap, np, cp, rfl, hop, hbp⟩)
              | fail)
            have trp := dg.there_below H9.out.tr hbp hqr hqr
            have hbelp := (H9.out.bel).trans (hbp.mono H9.out.bel.size)
            go_wp2_with (first
              | (refine lz.wp_build rfl _ _ rfl (.agg ZA) (by simp only [List.map_toArray, List.map_nil]; exact hbz _) ?_)
              | (refine wpList_store_mid rfl 28 (.tmp 2) (.tmp 126) rfl r 0 ZA rfl rfl (by rw [hzs]; exact trp) hinfZA hzo ?_; rw [hzl])
              | fail)
            try simp only [Exit.inBlock, Exit.then]
            refine bodyPost_ret (lz.results_ct rfl _ ⟨r, 0, none⟩ _ rfl (run_loadVar_mid (P := Tryd.prog) _ r 0 28 noteZ _ (World.rangeAt_setCells_same wp r 0 noteZ (by rw [noteZ_len]; exact trp)) Tryd.underlying28 rfl hinfZ)) rfl ?_
            rw [hG]
            exact ⟨none, 0, 0, rfl, Ow.nil _ _ _, (keep_o (dg.Keep1.sets r noteZ 0 wp)).below hbelp (by have := hbelp.size; omega) (by omega)⟩
        · go_upto_region 15 with (go_at_call 50; refine (HNX.out).mono ?_; rintro e w8 ⟨er8, rfl, hd8, hk8⟩; have H8 := Lib.hid (HW.out.call hd8 hk8); clear hd8 hk8; obtain ⟨v8, z8, y8⟩ := H8.out.at 4 (by omega))
          have H9 := Lib.hid (H8.out.set 4 (.int .i64 Ix))
          rw [noteV_set _ _ _ _ _ _ _ _ 4 Ix (by omega) (by omega)] at H9
          obtain ⟨w9, hw9⟩ : ∃ z, w8.setCell ⟨g, 4, none⟩ (.int .i64 Ix) = z := ⟨_, rfl⟩
          rw [hw9] at H9 ⊢
          clear hw9 z8 y8 H8 HW c00
          obtain ⟨vI, hvI⟩ : ∃ v : Nat → Int, v = fun j => if j = 4 then Ix else vF j := ⟨_, rfl⟩
          rw [← hvI] at H9 HNG
          have HVI := Lib.hid hvI
          have d00 : w9.cell? ⟨g, 0, none⟩ = some (.int .i64 N) := H9.out.rng 0 _ rfl
          have HON : Hid (Ow w9 w.heap.size 5 none 0 0 (bv [])) := Lib.hid (Ow.nil _ _ _)
          clear hvI
          go_upto_region 25 with fail
          have hrng := H9.out.rng
          have hnl := noteV_len (N := N) (v := vI) (K := 0) (S := 0) (A := none) (n := 0) (c := 0) z32_len2
          have hno : ∀ x ∈ noteV N vI (0) (0) (z32) (none) (0) (0), x.oneCell' = true := noteV_one
          have hxn : (([] : List UInt8)).length = 0 := by have := HON.out.len; rw [bv_len] at this; exact this
          have hNr : 0 ≤ N ∧ N ≤ 9223372036854775807 := numS_range HE.out.1
          have hFr := numS_range HE.out.2
          have hIr := numS_range HE3.out
          have hv1 : -9223372036854775808 ≤ vI 1 ∧ vI 1 ≤ 9223372036854775807 := by rw [HVI.out, HVF.out.1]; simp; omega
          have hv2 : -9223372036854775808 ≤ vI 2 ∧ vI 2 ≤ 9223372036854775807 := by rw [HVI.out, HVF.out.1]; simp
          have hv3 : -9223372036854775808 ≤ vI 3 ∧ vI 3 ≤ 9223372036854775807 := by rw [HVI.out, HVF.out.1]; simp
          have hv4 : -9223372036854775808 ≤ vI 4 ∧ vI 4 ≤ 9223372036854775807 := by rw [HVI.out, HVF.out.1]; simp; omega
          have hput := fun (y : World) (hy : Below w9.heap.size w9 y) => refPut_any N (vI 1) (vI 2) (vI 3) (vI 4) (0) (0) (z32) z32_len2 (none) (0) (0) y.heap.size (([] : List UInt8)) y ((HON.out.below hy (Nat.le_refl _)).rd) (Nat.le_refl _) (by omega) (by omega) (by omega) (by omega) (numL_range hv1 hv2 hv3 hv4)
          unfold MadeE at hput
          obtain ⟨NL, hNL⟩ : ∃ z, noteV N vI (0) (0) (z32) (none) (0) (0) = z := ⟨_, rfl⟩
          have hNL2 : noteL N (vI 1) (vI 2) (vI 3) (vI 4) (0) (0) (z32) (none) (0) (0) = NL := hNL
          rw [hNL] at hrng hnl hno
          simp only [hNL2] at hput
          have hinfN : (Tryd.prog.info? 28).map (·.size) = some NL.length := by rw [hnl]; exact info_note
          have hinfZ : (Tryd.prog.info? 28).map (·.size) = some noteZ.length := by rw [noteZ_len]; exact info_note
          obtain ⟨NA, hNA⟩ : ∃ z, NL.toArray = z := ⟨_, rfl⟩
          simp only [hNA] at hput
          have hnal : NA.toList = NL := by rw [← hNA]
          have hnas : NA.size = 40 := by rw [← hNA]; exact hnl
          have hnao : NA.all (·.oneCell') = true := by rw [← hNA]; exact all_oneCell_toArray hno
          have hinfNA : (Tryd.prog.info? 28).map (·.size) = some NA.size := by rw [hnas]; exact info_note
          have HNA := Lib.hid hNA
          have HNL := Lib.hid hNL2
          have hqr : r < w9.heap.size := by have := H9.out.hg; have := H9.out.hbg; have := H9.out.hrb; omega
          clear hNA hNL hNL2 hno
          rcases fitE_two2 N (vI 1) (vI 2) (vI 3) (vI 4) (0) (0) (z32) (([] : List UInt8)).length with hfe | hfe
          · have hpr : putR N (vI 1) (vI 2) (vI 3) (vI 4) (0) (0) (z32) (([] : List UInt8)) = (putB N (vI 1) (vI 2) (vI 3) (vI 4) (0) (0) (z32) (([] : List UInt8)), 0) := by unfold putR; rw [if_pos hfe]
            have hgp := getS_put N (vI 1) (vI 2) (vI 3) (vI 4) (0) (0) (z32) (([] : List UInt8)) z32_len2 hfe
            have hgo := getS_ok (l := L)
            have hgt := getS_two2 L
            have hgy := fun h => getS_yes HNG.out HRG.out h
            have hgn := fun h => getS_no HNG.out HRG.out h
            rw [hpr] at hput
            simp only at hput hgy hgn
            obtain ⟨pb, hpb⟩ : ∃ z, putB N (vI 1) (vI 2) (vI 3) (vI 4) (0) (0) (z32) (([] : List UInt8)) = z := ⟨_, rfl⟩
            rw [hpb] at hput hgp
            have HPUT := Lib.hid (hput w9 (Below.refl _ _))
            have hLr := fun (y : World) (hy : Below w.heap.size w y) => HH.out.below hy hB
            have HLR := Lib.hid hLr
            clear hput hpr hLr
            go_upto_region 26 with (first
              | (refine wpList_load_mid_g rfl 28 (.tmp 5) rfl g 0 rfl NL _ hrng Tryd.underlying28 rfl hinfN ?_; rw [HNA.out])
              | (go_at_call 25; refine (HPUT.out).mono ?_; rintro e wp ⟨Ap, np, cp, rfl, hop, hbp⟩)
              | fail)
            have trp := dg.there_below H9.out.tr hbp hqr hqr
            have hrngp := dg.range_below hrng hbp H9.out.hg
            have hbelp := (H9.out.bel).trans (hbp.mono H9.out.bel.size)
            have r1 := run_string Tryd.underlying24 Tryd.underlying5 Tryd.underlying9 hop.rd cp
            have r2 := run_string Tryd.underlying24 Tryd.underlying5 Tryd.underlying9 (HLR.out wp hbelp) c
            by_cases hpl : pb = L
            · have hGL : getS L = ⟨N, vI 1, vI 2, vI 3, vI 4, 0, 0, z32, ([] : List UInt8), 0⟩ := by rw [← hpl]; exact hgp
              rw [hpl] at r1
              have HGL := Lib.hid hGL
              have HOB := Lib.hid (HON.out.below hbp (Nat.le_refl _))
              clear hgp hgo hgt hgy hgn hGL hpl hop
              go_wp2_with (first
                | (refine wpList_load_mid_g rfl 28 (.tmp 5) rfl g 0 rfl NL _ hrngp Tryd.underlying28 rfl hinfN ?_; rw [HNA.out])
                | (refine wpList_store_mid rfl 28 (.tmp 2) (.tmp 127) rfl r 0 NA rfl rfl (by rw [hnas]; exact trp) hinfNA hnao ?_; rw [hnal])
                | fail)
              try simp only [Exit.inBlock, Exit.then]
              refine bodyPost_ret (lz.results_ct rfl _ ⟨r, 0, none⟩ _ rfl (run_loadVar_mid (P := Tryd.prog) _ r 0 28 NL _ (World.rangeAt_setCells_same wp r 0 NL (by rw [hnl]; exact trp)) Tryd.underlying28 rfl hinfN)) rfl ?_
              rw [HGL.out]
              have k9 := keep_o (dg.Keep1.sets r NL 0 wp)
              refine ⟨none, 0, 0, by (try simp only); rw [HNL.out, HNA.out]; rfl, ?_, k9.below hbelp (by have := hbelp.size; omega) (by omega)⟩
              exact Ow.nil _ _ _
            · have hG : getS L = zeroG := by
                rcases hgt with h0 | h0
                · exfalso
                  have hy := hgy (by refine Classical.byContradiction fun hcon => ?_; rw [hgn hcon] at h0; exact absurd h0 (by decide))
                  have := (hgo h0).1
                  rw [hy] at this
                  exact hpl (by rw [← hpb]; exact this)
                · exact h0
              have hb1 : ((bs pb).toList == (bs L).toList) = false := by rw [oct.bs_toList, oct.bs_toList]; exact beq_eq_false_iff_ne.2 hpl
              clear hgp hgo hgt hgy hgn hpb hpl hop
              go_wp2_with (first
                | (refine lz.wp_build rfl _ _ rfl (.agg ZA) (by simp only [List.map_toArray, List.map_nil]; exact hbz _) ?_)
                | (refine wpList_store_mid rfl 28 (.tmp 2) (.tmp 126) rfl r 0 ZA rfl rfl (by rw [hzs]; exact trp) hinfZA hzo ?_; rw [hzl])
                | fail)
              try simp only [Exit.inBlock, Exit.then]
              refine bodyPost_ret (lz.results_ct rfl _ ⟨r, 0, none⟩ _ rfl (run_loadVar_mid (P := Tryd.prog) _ r 0 28 noteZ _ (World.rangeAt_setCells_same wp r 0 noteZ (by rw [noteZ_len]; exact trp)) Tryd.underlying28 rfl hinfZ)) rfl ?_
              rw [hG]
              exact ⟨none, 0, 0, rfl, Ow.nil _ _ _, (keep_o (dg.Keep1.sets r noteZ 0 wp)).below hbelp (by have := hbelp.size; omega) (by omega)⟩
          · have hpr : putR N (vI 1) (vI 2) (vI 3) (vI 4) (0) (0) (z32) (([] : List UInt8)) = ([], 100) := by unfold putR; rw [if_neg (by omega)]
            have hG := getS_no HNG.out HRG.out (by rintro ⟨_, _, h3⟩; (try simp only at h3); rw [hfe] at h3; cases h3)
            rw [hpr] at hput
            have HPUT := Lib.hid (hput w9 (Below.refl _ _))
            clear hput hpr
            go_upto_region 26 with (first
              | (refine wpList_load_mid_g rfl 28 (.tmp 5) rfl g 0 rfl NL _ hrng Tryd.underlying28 rfl hinfN ?_; rw [HNA.out])
              | (go_at_call 25; refine (HPUT.out).mono ?_; rintro e wp ⟨Ap, np, cp, rfl, hop, hbp⟩)
              | fail)
            have trp := dg.there_below H9.out.tr hbp hqr hqr
            have hbelp := (H9.out.bel).trans (hbp.mono H9.out.bel.size)
            go_wp2_with (first
              | (refine lz.wp_build rfl _ _ rfl (.agg ZA) (by simp only [List.map_toArray, List.map_nil]; exact hbz _) ?_)
              | (refine wpList_store_mid rfl 28 (.tmp 2) (.tmp 126) rfl r 0 ZA rfl rfl (by rw [hzs]; exact trp) hinfZA hzo ?_; rw [hzl])
              | fail)
            try simp only [Exit.inBlock, Exit.then]
            refine bodyPost_ret (lz.results_ct rfl _ ⟨r, 0, none⟩ _ rfl (run_loadVar_mid (P := Tryd.prog) _ r 0 28 noteZ _ (World.rangeAt_setCells_same wp r 0 noteZ (by rw [noteZ_len]; exact trp)) Tryd.underlying28 rfl hinfZ)) rfl ?_
            rw [hG]
            exact ⟨none, 0, 0, rfl, Ow.nil _ _ _, (keep_o (dg.Keep1.sets r noteZ 0 wp)).below hbelp (by have := hbelp.size; omega) (by omega)⟩
      by_cases k1 : N = 1
      · rw [if_pos (by omega), if_pos (by omega)] at hW
        have HW := Lib.hid hW
        have c00 : wr.cell? ⟨g, 0, none⟩ = some (.int .i64 N) := hW.rng 0 _ rfl
        have n1 : (N == 1) = true := beq_iff_eq.2 k1
        have n2 : (N == 2) = false := beq_eq_false_iff_ne.2 (by omega)
        have n5 : (N == 5) = false := beq_eq_false_iff_ne.2 (by omega)
        have n6 : (N == 6) = false := beq_eq_false_iff_ne.2 (by omega)
        obtain ⟨⟨Px, l3, f3⟩, e3⟩ : ∃ z, numS l2 f2 = z := ⟨_, rfl⟩
        obtain ⟨⟨Dx, l4, f4⟩, e4⟩ : ∃ z, numS l3 f3 = z := ⟨_, rfl⟩
        obtain ⟨v2, hv2e⟩ : ∃ v : Nat → Int, v = fun j => if j = 2 then Px else vF j := ⟨_, rfl⟩
        obtain ⟨v3, hv3e⟩ : ∃ v : Nat → Int, v = fun j => if j = 3 then Dx else v2 j := ⟨_, rfl⟩
        have hng : numsG L = (N, v3, l4, f4) := by unfold numsG; rw [HE.out.1]; simp only; rw [show flds N = [(1, 1073741824), (2, 65535), (3, 65535)] by rw [k1]; rfl]; simp only [readF, HE.out.2, e3, e4]; rw [hv3e, hv2e, HVF.out.1]
        have hrg : recG L = ⟨0, 0, z32, [], l4, f4⟩ := by unfold recG; rw [hng]; simp only; rw [if_neg (by omega)]
        have HNG := Lib.hid hng
        have HRG := Lib.hid hrg
        have HE3 := Lib.hid (And.intro e3 e4)
        have HNX := Lib.hid (dnum_l b A n c L l2 f2 wr hW.rd e3)
        have HNY := Lib.hid (fun (y : World) (hy : DL y b A n c L l3) => dnum_l b A n c L l3 f3 y hy e4)
        have HV23 := Lib.hid (And.intro hv2e hv3e)
        clear hW hng hrg k1 e3 e4 k3 k5 hv2e hv3e
        go_upto_region 12 with (go_at_call 50; refine (HNX.out).mono ?_; rintro e w8 ⟨er8, rfl, hd8, hk8⟩; have H8 := Lib.hid (HW.out.call hd8 hk8); clear hd8 hk8; obtain ⟨x8, z8, y8⟩ := H8.out.at 2 (by omega))
        have H9 := Lib.hid (H8.out.set 2 (.int .i64 Px))
        rw [noteV_set _ _ _ _ _ _ _ _ 2 Px (by omega) (by omega), ← HV23.out.1] at H9
        obtain ⟨w9, hw9⟩ : ∃ z, w8.setCell ⟨g, 2, none⟩ (.int .i64 Px) = z := ⟨_, rfl⟩
        rw [hw9] at H9 ⊢
        clear hw9 z8 y8 H8 HW c00 HNX
        have HNZ := Lib.hid (HNY.out w9 H9.out.rd)
        clear HNY
        go_upto_region 13 with (go_at_call 50; refine (HNZ.out).mono ?_; rintro e w10 ⟨er10, rfl, hd10, hk10⟩; have H10 := Lib.hid (H9.out.call hd10 hk10); clear hd10 hk10; obtain ⟨x10, z10, y10⟩ := H10.out.at 3 (by omega))
        have H11 := Lib.hid (H10.out.set 3 (.int .i64 Dx))
        rw [noteV_set _ _ _ _ _ _ _ _ 3 Dx (by omega) (by omega), ← HV23.out.2] at H11
        obtain ⟨w11, hw11⟩ : ∃ z, w10.setCell ⟨g, 3, none⟩ (.int .i64 Dx) = z := ⟨_, rfl⟩
        rw [hw11] at H11 ⊢
        clear hw11 z10 y10 H10 H9 HNZ
        have d00 : w11.cell? ⟨g, 0, none⟩ = some (.int .i64 N) := H11.out.rng 0 _ rfl
        have HON : Hid (Ow w11 w.heap.size 5 none 0 0 (bv [])) := Lib.hid (Ow.nil _ _ _)
        go_upto_region 25 with fail
        have hrng := H11.out.rng
        have hnl := noteV_len (N := N) (v := v3) (K := 0) (S := 0) (A := none) (n := 0) (c := 0) z32_len2
        have hno : ∀ x ∈ noteV N v3 (0) (0) (z32) (none) (0) (0), x.oneCell' = true := noteV_one
        have hxn : (([] : List UInt8)).length = 0 := by have := HON.out.len; rw [bv_len] at this; exact this
        have hNr : 0 ≤ N ∧ N ≤ 9223372036854775807 := numS_range HE.out.1
        have hFr := numS_range HE.out.2
        have hPr := numS_range HE3.out.1
        have hDr := numS_range HE3.out.2
        have hv1 : -9223372036854775808 ≤ v3 1 ∧ v3 1 ≤ 9223372036854775807 := by rw [HV23.out.2, HV23.out.1, HVF.out.1]; simp; omega
        have hv2 : -9223372036854775808 ≤ v3 2 ∧ v3 2 ≤ 9223372036854775807 := by rw [HV23.out.2, HV23.out.1, HVF.out.1]; simp; omega
        have hv3 : -9223372036854775808 ≤ v3 3 ∧ v3 3 ≤ 9223372036854775807 := by rw [HV23.out.2, HV23.out.1, HVF.out.1]; simp; omega
        have hv4 : -9223372036854775808 ≤ v3 4 ∧ v3 4 ≤ 9223372036854775807 := by rw [HV23.out.2, HV23.out.1, HVF.out.1]; simp
        have hput := fun (y : World) (hy : Below w11.heap.size w11 y) => refPut_any N (v3 1) (v3 2) (v3 3) (v3 4) (0) (0) (z32) z32_len2 (none) (0) (0) y.heap.size (([] : List UInt8)) y ((HON.out.below hy (Nat.le_refl _)).rd) (Nat.le_refl _) (by omega) (by omega) (by omega) (by omega) (numL_range hv1 hv2 hv3 hv4)
        unfold MadeE at hput
        obtain ⟨NL, hNL⟩ : ∃ z, noteV N v3 (0) (0) (z32) (none) (0) (0) = z := ⟨_, rfl⟩
        have hNL2 : noteL N (v3 1) (v3 2) (v3 3) (v3 4) (0) (0) (z32) (none) (0) (0) = NL := hNL
        rw [hNL] at hrng hnl hno
        simp only [hNL2] at hput
        have hinfN : (Tryd.prog.info? 28).map (·.size) = some NL.length := by rw [hnl]; exact info_note
        have hinfZ : (Tryd.prog.info? 28).map (·.size) = some noteZ.length := by rw [noteZ_len]; exact info_note
        obtain ⟨NA, hNA⟩ : ∃ z, NL.toArray = z := ⟨_, rfl⟩
        simp only [hNA] at hput
        have hnal : NA.toList = NL := by rw [← hNA]
        have hnas : NA.size = 40 := by rw [← hNA]; exact hnl
        have hnao : NA.all (·.oneCell') = true := by rw [← hNA]; exact all_oneCell_toArray hno
        have hinfNA : (Tryd.prog.info? 28).map (·.size) = some NA.size := by rw [hnas]; exact info_note
        have HNA := Lib.hid hNA
        have HNL := Lib.hid hNL2
        have hqr : r < w11.heap.size := by have := H11.out.hg; have := H11.out.hbg; have := H11.out.hrb; omega
        clear hNA hNL hNL2 hno
        rcases fitE_two2 N (v3 1) (v3 2) (v3 3) (v3 4) (0) (0) (z32) (([] : List UInt8)).length with hfe | hfe
        · have hpr : putR N (v3 1) (v3 2) (v3 3) (v3 4) (0) (0) (z32) (([] : List UInt8)) = (putB N (v3 1) (v3 2) (v3 3) (v3 4) (0) (0) (z32) (([] : List UInt8)), 0) := by unfold putR; rw [if_pos hfe]
          have hgp := getS_put N (v3 1) (v3 2) (v3 3) (v3 4) (0) (0) (z32) (([] : List UInt8)) z32_len2 hfe
          have hgo := getS_ok (l := L)
          have hgt := getS_two2 L
          have hgy := fun h => getS_yes HNG.out HRG.out h
          have hgn := fun h => getS_no HNG.out HRG.out h
          rw [hpr] at hput
          simp only at hput hgy hgn
          obtain ⟨pb, hpb⟩ : ∃ z, putB N (v3 1) (v3 2) (v3 3) (v3 4) (0) (0) (z32) (([] : List UInt8)) = z := ⟨_, rfl⟩
          rw [hpb] at hput hgp
          have HPUT := Lib.hid (hput w11 (Below.refl _ _))
          have hLr := fun (y : World) (hy : Below w.heap.size w y) => HH.out.below hy hB
          have HLR := Lib.hid hLr
          clear hput hpr hLr
          go_upto_region 26 with (first
            | (refine wpList_load_mid_g rfl 28 (.tmp 5) rfl g 0 rfl NL _ hrng Tryd.underlying28 rfl hinfN ?_; rw [HNA.out])
            | (go_at_call 25; refine (HPUT.out).mono ?_; rintro e wp ⟨Ap, np, cp, rfl, hop, hbp⟩)
            | fail)
          have trp := dg.there_below H11.out.tr hbp hqr hqr
          have hrngp := dg.range_below hrng hbp H11.out.hg
          have hbelp := (H11.out.bel).trans (hbp.mono H11.out.bel.size)
          have r1 := run_string Tryd.underlying24 Tryd.underlying5 Tryd.underlying9 hop.rd cp
          have r2 := run_string Tryd.underlying24 Tryd.underlying5 Tryd.underlying9 (HLR.out wp hbelp) c
          by_cases hpl : pb = L
          · have hGL : getS L = ⟨N, v3 1, v3 2, v3 3, v3 4, 0, 0, z32, ([] : List UInt8), 0⟩ := by rw [← hpl]; exact hgp
            rw [hpl] at r1
            have HGL := Lib.hid hGL
            have HOB := Lib.hid (HON.out.below hbp (Nat.le_refl _))
            clear hgp hgo hgt hgy hgn hGL hpl hop
            go_wp2_with (first
              | (refine wpList_load_mid_g rfl 28 (.tmp 5) rfl g 0 rfl NL _ hrngp Tryd.underlying28 rfl hinfN ?_; rw [HNA.out])
              | (refine wpList_store_mid rfl 28 (.tmp 2) (.tmp 127) rfl r 0 NA rfl rfl (by rw [hnas]; exact trp) hinfNA hnao ?_; rw [hnal])
              | fail)
            try simp only [Exit.inBlock, Exit.then]
            refine bodyPost_ret (lz.results_ct rfl _ ⟨r, 0, none⟩ _ rfl (run_loadVar_mid (P := Tryd.prog) _ r 0 28 NL _ (World.rangeAt_setCells_same wp r 0 NL (by rw [hnl]; exact trp)) Tryd.underlying28 rfl hinfN)) rfl ?_
            rw [HGL.out]
            have k9 := keep_o (dg.Keep1.sets r NL 0 wp)
            refine ⟨none, 0, 0, by (try simp only); rw [HNL.out, HNA.out]; rfl, ?_, k9.below hbelp (by have := hbelp.size; omega) (by omega)⟩
            exact Ow.nil _ _ _
          · have hG : getS L = zeroG := by
              rcases hgt with h0 | h0
              · exfalso
                have hy := hgy (by refine Classical.byContradiction fun hcon => ?_; rw [hgn hcon] at h0; exact absurd h0 (by decide))
                have := (hgo h0).1
                rw [hy] at this
                exact hpl (by rw [← hpb]; exact this)
              · exact h0
            have hb1 : ((bs pb).toList == (bs L).toList) = false := by rw [oct.bs_toList, oct.bs_toList]; exact beq_eq_false_iff_ne.2 hpl
            clear hgp hgo hgt hgy hgn hpb hpl hop
            go_wp2_with (first
              | (refine lz.wp_build rfl _ _ rfl (.agg ZA) (by simp only [List.map_toArray, List.map_nil]; exact hbz _) ?_)
              | (refine wpList_store_mid rfl 28 (.tmp 2) (.tmp 126) rfl r 0 ZA rfl rfl (by rw [hzs]; exact trp) hinfZA hzo ?_; rw [hzl])
              | fail)
            try simp only [Exit.inBlock, Exit.then]
            refine bodyPost_ret (lz.results_ct rfl _ ⟨r, 0, none⟩ _ rfl (run_loadVar_mid (P := Tryd.prog) _ r 0 28 noteZ _ (World.rangeAt_setCells_same wp r 0 noteZ (by rw [noteZ_len]; exact trp)) Tryd.underlying28 rfl hinfZ)) rfl ?_
            rw [hG]
            exact ⟨none, 0, 0, rfl, Ow.nil _ _ _, (keep_o (dg.Keep1.sets r noteZ 0 wp)).below hbelp (by have := hbelp.size; omega) (by omega)⟩
        · have hpr : putR N (v3 1) (v3 2) (v3 3) (v3 4) (0) (0) (z32) (([] : List UInt8)) = ([], 100) := by unfold putR; rw [if_neg (by omega)]
          have hG := getS_no HNG.out HRG.out (by rintro ⟨_, _, h3⟩; (try simp only at h3); rw [hfe] at h3; cases h3)
          rw [hpr] at hput
          have HPUT := Lib.hid (hput w11 (Below.refl _ _))
          clear hput hpr
          go_upto_region 26 with (first
            | (refine wpList_load_mid_g rfl 28 (.tmp 5) rfl g 0 rfl NL _ hrng Tryd.underlying28 rfl hinfN ?_; rw [HNA.out])
            | (go_at_call 25; refine (HPUT.out).mono ?_; rintro e wp ⟨Ap, np, cp, rfl, hop, hbp⟩)
            | fail)
          have trp := dg.there_below H11.out.tr hbp hqr hqr
          have hbelp := (H11.out.bel).trans (hbp.mono H11.out.bel.size)
          go_wp2_with (first
            | (refine lz.wp_build rfl _ _ rfl (.agg ZA) (by simp only [List.map_toArray, List.map_nil]; exact hbz _) ?_)
            | (refine wpList_store_mid rfl 28 (.tmp 2) (.tmp 126) rfl r 0 ZA rfl rfl (by rw [hzs]; exact trp) hinfZA hzo ?_; rw [hzl])
            | fail)
          try simp only [Exit.inBlock, Exit.then]
          refine bodyPost_ret (lz.results_ct rfl _ ⟨r, 0, none⟩ _ rfl (run_loadVar_mid (P := Tryd.prog) _ r 0 28 noteZ _ (World.rangeAt_setCells_same wp r 0 noteZ (by rw [noteZ_len]; exact trp)) Tryd.underlying28 rfl hinfZ)) rfl ?_
          rw [hG]
          exact ⟨none, 0, 0, rfl, Ow.nil _ _ _, (keep_o (dg.Keep1.sets r noteZ 0 wp)).below hbelp (by have := hbelp.size; omega) (by omega)⟩
      by_cases k2 : N = 2
      · rw [if_pos (by omega), if_pos (by omega)] at hW
        have HW := Lib.hid hW
        have c00 : wr.cell? ⟨g, 0, none⟩ = some (.int .i64 N) := hW.rng 0 _ rfl
        have n1 : (N == 1) = false := beq_eq_false_iff_ne.2 k1
        have n2 : (N == 2) = true := beq_iff_eq.2 k2
        obtain ⟨⟨Ix, l3, f3⟩, e3⟩ : ∃ z, numS l2 f2 = z := ⟨_, rfl⟩
        obtain ⟨⟨K, l4, f4⟩, e4⟩ : ∃ z, numS l3 f3 = z := ⟨_, rfl⟩
        obtain ⟨⟨S, l5, f5⟩, e5⟩ : ∃ z, numS l4 f4 = z := ⟨_, rfl⟩
        obtain ⟨⟨D, l6, f6⟩, e6⟩ : ∃ z, bytesS 32 l5 f5 = z := ⟨_, rfl⟩
        obtain ⟨⟨X, u, er⟩, e7⟩ : ∃ z, oct.textR l6 256 = z := ⟨_, rfl⟩
        obtain ⟨vI, hvI⟩ : ∃ v : Nat → Int, v = fun j => if j = 4 then Ix else vF j := ⟨_, rfl⟩
        have hng : numsG L = (N, vI, l3, f3) := by unfold numsG; rw [HE.out.1]; simp only; rw [flds_2 N (Or.inl k2)]; simp only [readF, HE.out.2, e3]; rw [hvI, HVF.out.1]
        have hrg : recG L = ⟨K, S, D, X, l6.drop u, heedB f6 (er : Nat)⟩ := by unfold recG; rw [hng]; simp only; rw [if_pos k2]; unfold recS; simp only [e4, e5, e6, e7]
        have hDl : D.length = 32 := by have := bytesS_len 32 l5 f5; rw [e6] at this; exact this
        have hXl : X.length ≤ 256 := by have := textR_len l6; rw [e7] at this; exact this
        have hKr := numS_range e4
        have hSr := numS_range e5
        have HNG := Lib.hid hng
        have HRG := Lib.hid hrg
        have HE3 := Lib.hid (And.intro e3 e6)
        have HVI := Lib.hid hvI
        have HNX := Lib.hid (dnum_l b A n c L l2 f2 wr hW.rd e3)
        have HNY := Lib.hid (fun (y : World) (hy : DL y b A n c L l3) => dnum_l b A n c L l3 f3 y hy e4)
        have HNZ := Lib.hid (fun (y : World) (hy : DL y b A n c L l4) => dnum_l b A n c L l4 f4 y hy e5)
        have htx := fun (y : World) (hy : DL y b A n c L l6) => dtext_l b A n c L l6 y hy
        simp only [e7] at htx
        have HTX := Lib.hid htx
        clear hW hng hrg k1 k2 k3 k5 e3 e4 e5 e6 e7 hvI htx
        go_upto_region 15 with (go_at_call 50; refine (HNX.out).mono ?_; rintro e w8 ⟨er8, rfl, hd8, hk8⟩; have H8 := Lib.hid (HW.out.call hd8 hk8); clear hd8 hk8; obtain ⟨x8, z8, y8⟩ := H8.out.at 4 (by omega))
        have H9 := Lib.hid (H8.out.set 4 (.int .i64 Ix))
        rw [noteV_set _ _ _ _ _ _ _ _ 4 Ix (by omega) (by omega), ← HVI.out] at H9
        obtain ⟨w9, hw9⟩ : ∃ z, w8.setCell ⟨g, 4, none⟩ (.int .i64 Ix) = z := ⟨_, rfl⟩
        rw [hw9] at H9 ⊢
        clear hw9 z8 y8 H8 HW c00 HNX
        have d00 : w9.cell? ⟨g, 0, none⟩ = some (.int .i64 N) := H9.out.rng 0 _ rfl
        have HY2 := Lib.hid (HNY.out w9 H9.out.rd)
        clear HNY
        go_upto_region 17 with (go_at_call 50; refine (HY2.out).mono ?_; rintro e w10 ⟨er10, rfl, hd10, hk10⟩; have H10 := Lib.hid (H9.out.call hd10 hk10); clear hd10 hk10; obtain ⟨x10, z10, y10⟩ := H10.out.at 5 (by omega))
        have H11 := Lib.hid (H10.out.set 5 (.int .i64 K))
        rw [show (noteV N vI 0 0 z32 none 0 0).set 5 (.int .i64 K) = noteV N vI K 0 z32 none 0 0 from rfl] at H11
        obtain ⟨w11, hw11⟩ : ∃ z, w10.setCell ⟨g, 5, none⟩ (.int .i64 K) = z := ⟨_, rfl⟩
        rw [hw11] at H11 ⊢
        clear hw11 z10 y10 H10 H9 HY2 d00
        have HZ2 := Lib.hid (HNZ.out w11 H11.out.rd)
        clear HNZ
        go_upto_region 18 with (go_at_call 50; refine (HZ2.out).mono ?_; rintro e w12 ⟨er12, rfl, hd12, hk12⟩; have H12 := Lib.hid (H11.out.call hd12 hk12); clear hd12 hk12; obtain ⟨x12, z12, y12⟩ := H12.out.at 6 (by omega))
        have H13 := Lib.hid (H12.out.set 6 (.int .i64 S))
        rw [show (noteV N vI K 0 z32 none 0 0).set 6 (.int .i64 S) = noteV N vI K S (dgT []) none 0 0 from rfl] at H13
        obtain ⟨w13, hw13⟩ : ∃ z, w12.setCell ⟨g, 6, none⟩ (.int .i64 S) = z := ⟨_, rfl⟩
        rw [hw13] at H13 ⊢
        clear hw13 z12 y12 H12 H11 HZ2
        go_wp2_with fail
        go_loopw [91] (fun i wr => ∃ j : Nat, i = .int .i64 j ∧ j ≤ 32 ∧ Hid (GD w wr b r g A n c L (bytesS j l5 f5).2.1 (noteV N vI K S (dgT (bytesS j l5 f5).1) none 0 0))) (fun i _ => 32 - (intOf i).toNat)
        case atStart => exact ⟨0, rfl, Nat.zero_le _, H13⟩
        case round =>
          obtain ⟨j, rfl, hj, HQ⟩ := hrel
          by_cases hjl : j < 32
          · have hji : (j : Int) < 32 := by omega
            have hdl := bytesS_len j l5 f5
            have hnext : ∀ z t, bytesS j l5 f5 = z → oct.byteR z.2.1 = t → bytesS (j + 1) l5 f5 = (z.1 ++ [t.1], z.2.1.drop t.2.1, heedB z.2.2 (t.2.2 : Nat)) := fun z t e1 e2 => by subst e1; subst e2; rfl
            obtain ⟨⟨d, lj, fj⟩, hz⟩ : ∃ z, bytesS j l5 f5 = z := ⟨_, rfl⟩
            rw [hz] at HQ hdl
            simp only at HQ hdl
            have hbt := dbyte_l b A n c L lj wr HQ.out.rd
            obtain ⟨⟨y, nn, er2⟩, ht⟩ : ∃ t, oct.byteR lj = t := ⟨_, rfl⟩
            have hnx := hnext _ _ hz ht
            simp only [ht] at hbt hnx
            have HBT := Lib.hid hbt
            have HNXT := Lib.hid hnx
            clear hbt hnx hnext hz ht
            go_wp2_with (go_at_call 51; refine (HBT.out).mono ?_; rintro e w15 ⟨rfl, hd15, hk15⟩; have H15 := Lib.hid (HQ.out.call hd15 hk15); clear hd15 hk15; obtain ⟨x15, z15, y15⟩ := H15.out.at (7 + j) (by omega))
            have H16 := Lib.hid (H15.out.set (7 + j) (.int .u8 (y.toNat : Int)))
            have e16 : (noteV N vI K S (dgT d) none 0 0).set (7 + j) (.int .u8 (y.toNat : Int)) = noteV N vI K S (dgT (d ++ [y])) none 0 0 := by
              have := recL_setD K S d y none 0 0 (by omega)
              rw [hdl] at this
              unfold noteV noteL
              rw [show 7 + j = (2 + j) + 1 + 1 + 1 + 1 + 1 by omega]
              simp only [List.set_cons_succ]
              rw [this]
            rw [e16] at H16
            go_roundw
            case rel => exact ⟨j + 1, by go_num, by omega, by rw [HNXT.out]; exact H16⟩
            case measure => simp [intOf]; omega
          · obtain rfl : j = 32 := by omega
            have hE := HE3.out.2
            rw [hE] at HQ
            simp only at HQ
            have hdt : dgT D = D := by unfold dgT; rw [hDl]; simp
            rw [hdt] at HQ
            have HT2 := Lib.hid (HTX.out wr HQ.out.rd)
            have hgw := HQ.out.hg
            have hwb := HQ.out.bel.size
            have hrw9 : r < wr.heap.size := by have := HQ.out.hbg; have := HQ.out.hrb; omega
            clear HTX H13 hE
            go_upto_region 25 with (go_at_call 52; refine (HT2.out).mono ?_; rintro e w17 ⟨A9, n9, c9, rfl, ho17, hd17, hk17⟩; have H17 := Lib.hid (HQ.out.call hd17 hk17); clear hd17 hk17; obtain ⟨x17, z17, y17⟩ := H17.out.at 39 (by omega))
            have H18 := Lib.hid (H17.out.set 39 (.slice A9 n9 c9))
            have e18 : (noteV N vI K S D none 0 0).set 39 (.slice A9 n9 c9) = noteV N vI K S D A9 n9 c9 := by
              have : (recL K S D none 0 0).set 34 (.slice A9 n9 c9) = recL K S D A9 n9 c9 := rec_set34 hDl
              unfold noteV noteL
              rw [show (39 : Nat) = 34 + 1 + 1 + 1 + 1 + 1 from rfl]
              simp only [List.set_cons_succ]
              rw [this]
            rw [e18] at H18
            have ho18 : Ow (w17.setCell ⟨g, 39, none⟩ (.slice A9 n9 c9)) wr.heap.size 5 A9 n9 c9 (bv X) := (oct.Keep1.set w17 g 39 (.slice A9 n9 c9)).ow ho17 hgw
            have HON := Lib.hid ho18
            obtain ⟨w18, hw18⟩ : ∃ z, w17.setCell ⟨g, 39, none⟩ (.slice A9 n9 c9) = z := ⟨_, rfl⟩
            rw [hw18] at H18 HON ⊢
            have hn9 : n9 ≤ 256 := by have := ho18.len; rw [bv_len] at this; omega
            clear hw18 ho18 ho17 z17 y17 H17 HQ HT2
            have hrng := H18.out.rng
            have hnl := noteV_len (N := N) (v := vI) (K := K) (S := S) (A := A9) (n := n9) (c := c9) hDl
            have hno : ∀ x ∈ noteV N vI (K) (S) (D) (A9) (n9) (c9), x.oneCell' = true := noteV_one
            have hxn : (X).length = n9 := by have := HON.out.len; rw [bv_len] at this; exact this
            have hNr : 0 ≤ N ∧ N ≤ 9223372036854775807 := numS_range HE.out.1
            have hFr := numS_range HE.out.2
            have hIr := numS_range HE3.out.1
            have hv1 : -9223372036854775808 ≤ vI 1 ∧ vI 1 ≤ 9223372036854775807 := by rw [HVI.out, HVF.out.1]; simp; omega
            have hv2 : -9223372036854775808 ≤ vI 2 ∧ vI 2 ≤ 9223372036854775807 := by rw [HVI.out, HVF.out.1]; simp
            have hv3 : -9223372036854775808 ≤ vI 3 ∧ vI 3 ≤ 9223372036854775807 := by rw [HVI.out, HVF.out.1]; simp
            have hv4 : -9223372036854775808 ≤ vI 4 ∧ vI 4 ≤ 9223372036854775807 := by rw [HVI.out, HVF.out.1]; simp; omega
            have hput := fun (y : World) (hy : Below w18.heap.size w18 y) => refPut_any N (vI 1) (vI 2) (vI 3) (vI 4) (K) (S) (D) hDl (A9) (n9) (c9) y.heap.size (X) y ((HON.out.below hy (Nat.le_refl _)).rd) (Nat.le_refl _) (by omega) (by omega) (by omega) (by omega) (numL_range hv1 hv2 hv3 hv4)
            unfold MadeE at hput
            obtain ⟨NL, hNL⟩ : ∃ z, noteV N vI (K) (S) (D) (A9) (n9) (c9) = z := ⟨_, rfl⟩
            have hNL2 : noteL N (vI 1) (vI 2) (vI 3) (vI 4) (K) (S) (D) (A9) (n9) (c9) = NL := hNL
            rw [hNL] at hrng hnl hno
            simp only [hNL2] at hput
            have hinfN : (Tryd.prog.info? 28).map (·.size) = some NL.length := by rw [hnl]; exact info_note
            have hinfZ : (Tryd.prog.info? 28).map (·.size) = some noteZ.length := by rw [noteZ_len]; exact info_note
            obtain ⟨NA, hNA⟩ : ∃ z, NL.toArray = z := ⟨_, rfl⟩
            simp only [hNA] at hput
            have hnal : NA.toList = NL := by rw [← hNA]
            have hnas : NA.size = 40 := by rw [← hNA]; exact hnl
            have hnao : NA.all (·.oneCell') = true := by rw [← hNA]; exact all_oneCell_toArray hno
            have hinfNA : (Tryd.prog.info? 28).map (·.size) = some NA.size := by rw [hnas]; exact info_note
            have HNA := Lib.hid hNA
            have HNL := Lib.hid hNL2
            have hqr : r < w18.heap.size := by have := H18.out.hg; have := H18.out.hbg; have := H18.out.hrb; omega
            clear hNA hNL hNL2 hno
            rcases fitE_two2 N (vI 1) (vI 2) (vI 3) (vI 4) (K) (S) (D) (X).length with hfe | hfe
            · have hpr : putR N (vI 1) (vI 2) (vI 3) (vI 4) (K) (S) (D) (X) = (putB N (vI 1) (vI 2) (vI 3) (vI 4) (K) (S) (D) (X), 0) := by unfold putR; rw [if_pos hfe]
              have hgp := getS_put N (vI 1) (vI 2) (vI 3) (vI 4) (K) (S) (D) (X) hDl hfe
              have hgo := getS_ok (l := L)
              have hgt := getS_two2 L
              have hgy := fun h => getS_yes HNG.out HRG.out h
              have hgn := fun h => getS_no HNG.out HRG.out h
              rw [hpr] at hput
              simp only at hput hgy hgn
              obtain ⟨pb, hpb⟩ : ∃ z, putB N (vI 1) (vI 2) (vI 3) (vI 4) (K) (S) (D) (X) = z := ⟨_, rfl⟩
              rw [hpb] at hput hgp
              have HPUT := Lib.hid (hput w18 (Below.refl _ _))
              have hLr := fun (y : World) (hy : Below w.heap.size w y) => HH.out.below hy hB
              have HLR := Lib.hid hLr
              clear hput hpr hLr
              go_upto_region 26 with (first
                | (refine wpList_load_mid_g rfl 28 (.tmp 5) rfl g 0 rfl NL _ hrng Tryd.underlying28 rfl hinfN ?_; rw [HNA.out])
                | (go_at_call 25; refine (HPUT.out).mono ?_; rintro e wp ⟨Ap, np, cp, rfl, hop, hbp⟩)
                | fail)
              have trp := dg.there_below H18.out.tr hbp hqr hqr
              have hrngp := dg.range_below hrng hbp H18.out.hg
              have hbelp := (H18.out.bel).trans (hbp.mono H18.out.bel.size)
              have r1 := run_string Tryd.underlying24 Tryd.underlying5 Tryd.underlying9 hop.rd cp
              have r2 := run_string Tryd.underlying24 Tryd.underlying5 Tryd.underlying9 (HLR.out wp hbelp) c
              by_cases hpl : pb = L
              · have hGL : getS L = ⟨N, vI 1, vI 2, vI 3, vI 4, K, S, D, X, 0⟩ := by rw [← hpl]; exact hgp
                rw [hpl] at r1
                have HGL := Lib.hid hGL
                have HOB := Lib.hid (HON.out.below hbp (Nat.le_refl _))
                clear hgp hgo hgt hgy hgn hGL hpl hop
                go_wp2_with (first
                  | (refine wpList_load_mid_g rfl 28 (.tmp 5) rfl g 0 rfl NL _ hrngp Tryd.underlying28 rfl hinfN ?_; rw [HNA.out])
                  | (refine wpList_store_mid rfl 28 (.tmp 2) (.tmp 127) rfl r 0 NA rfl rfl (by rw [hnas]; exact trp) hinfNA hnao ?_; rw [hnal])
                  | fail)
                try simp only [Exit.inBlock, Exit.then]
                refine bodyPost_ret (lz.results_ct rfl _ ⟨r, 0, none⟩ _ rfl (run_loadVar_mid (P := Tryd.prog) _ r 0 28 NL _ (World.rangeAt_setCells_same wp r 0 NL (by rw [hnl]; exact trp)) Tryd.underlying28 rfl hinfN)) rfl ?_
                rw [HGL.out]
                have k9 := keep_o (dg.Keep1.sets r NL 0 wp)
                refine ⟨A9, n9, c9, by (try simp only); rw [HNL.out, HNA.out]; rfl, ?_, k9.below hbelp (by have := hbelp.size; omega) (by omega)⟩
                exact (k9.ow HOB.out hrw9).base hwb
              · have hG : getS L = zeroG := by
                  rcases hgt with h0 | h0
                  · exfalso
                    have hy := hgy (by refine Classical.byContradiction fun hcon => ?_; rw [hgn hcon] at h0; exact absurd h0 (by decide))
                    have := (hgo h0).1
                    rw [hy] at this
                    exact hpl (by rw [← hpb]; exact this)
                  · exact h0
                have hb1 : ((bs pb).toList == (bs L).toList) = false := by rw [oct.bs_toList, oct.bs_toList]; exact beq_eq_false_iff_ne.2 hpl
                clear hgp hgo hgt hgy hgn hpb hpl hop
                go_wp2_with (first
                  | (refine lz.wp_build rfl _ _ rfl (.agg ZA) (by simp only [List.map_toArray, List.map_nil]; exact hbz _) ?_)
                  | (refine wpList_store_mid rfl 28 (.tmp 2) (.tmp 126) rfl r 0 ZA rfl rfl (by rw [hzs]; exact trp) hinfZA hzo ?_; rw [hzl])
                  | fail)
                try simp only [Exit.inBlock, Exit.then]
                refine bodyPost_ret (lz.results_ct rfl _ ⟨r, 0, none⟩ _ rfl (run_loadVar_mid (P := Tryd.prog) _ r 0 28 noteZ _ (World.rangeAt_setCells_same wp r 0 noteZ (by rw [noteZ_len]; exact trp)) Tryd.underlying28 rfl hinfZ)) rfl ?_
                rw [hG]
                exact ⟨none, 0, 0, rfl, Ow.nil _ _ _, (keep_o (dg.Keep1.sets r noteZ 0 wp)).below hbelp (by have := hbelp.size; omega) (by omega)⟩
            · have hpr : putR N (vI 1) (vI 2) (vI 3) (vI 4) (K) (S) (D) (X) = ([], 100) := by unfold putR; rw [if_neg (by omega)]
              have hG := getS_no HNG.out HRG.out (by rintro ⟨_, _, h3⟩; (try simp only at h3); rw [hfe] at h3; cases h3)
              rw [hpr] at hput
              have HPUT := Lib.hid (hput w18 (Below.refl _ _))
              clear hput hpr
              go_upto_region 26 with (first
                | (refine wpList_load_mid_g rfl 28 (.tmp 5) rfl g 0 rfl NL _ hrng Tryd.underlying28 rfl hinfN ?_; rw [HNA.out])
                | (go_at_call 25; refine (HPUT.out).mono ?_; rintro e wp ⟨Ap, np, cp, rfl, hop, hbp⟩)
                | fail)
              have trp := dg.there_below H18.out.tr hbp hqr hqr
              have hbelp := (H18.out.bel).trans (hbp.mono H18.out.bel.size)
              go_wp2_with (first
                | (refine lz.wp_build rfl _ _ rfl (.agg ZA) (by simp only [List.map_toArray, List.map_nil]; exact hbz _) ?_)
                | (refine wpList_store_mid rfl 28 (.tmp 2) (.tmp 126) rfl r 0 ZA rfl rfl (by rw [hzs]; exact trp) hinfZA hzo ?_; rw [hzl])
                | fail)
              try simp only [Exit.inBlock, Exit.then]
              refine bodyPost_ret (lz.results_ct rfl _ ⟨r, 0, none⟩ _ rfl (run_loadVar_mid (P := Tryd.prog) _ r 0 28 noteZ _ (World.rangeAt_setCells_same wp r 0 noteZ (by rw [noteZ_len]; exact trp)) Tryd.underlying28 rfl hinfZ)) rfl ?_
              rw [hG]
              exact ⟨none, 0, 0, rfl, Ow.nil _ _ _, (keep_o (dg.Keep1.sets r noteZ 0 wp)).below hbelp (by have := hbelp.size; omega) (by omega)⟩
      by_cases k0 : 1 ≤ N ∧ N ≤ 6
      · exact absurd k0 (by omega)
      · rw [if_neg (by omega), if_neg (by omega)] at hW
        have HW := Lib.hid hW
        have c00 : wr.cell? ⟨g, 0, none⟩ = some (.int .i64 N) := hW.rng 0 _ rfl
        have n1 : (N == 1) = false := beq_eq_false_iff_ne.2 (by omega)
        have n2 : (N == 2) = false := beq_eq_false_iff_ne.2 (by omega)
        have n5 : (N == 5) = false := beq_eq_false_iff_ne.2 (by omega)
        have n6 : (N == 6) = false := beq_eq_false_iff_ne.2 (by omega)
        have hng : numsG L = (N, vZ, l1, f1) := by unfold numsG; rw [HE.out.1]; simp only; rw [flds_0 N (by omega) (by omega) (by omega) (by omega) (by omega) (by omega)]; simp only [readF]; rw [HVF.out.2]
        have hrg : recG L = ⟨0, 0, z32, [], l1, f1⟩ := by unfold recG; rw [hng]; simp only; rw [if_neg (by omega)]
        have HNG := Lib.hid hng
        have HRG := Lib.hid hrg
        have HON : Hid (Ow wr w.heap.size 5 none 0 0 (bv [])) := Lib.hid (Ow.nil _ _ _)
        clear hW hng hrg
        go_upto_region 25 with fail
        have hrng := HW.out.rng
        have hnl := noteV_len (N := N) (v := vZ) (K := 0) (S := 0) (A := none) (n := 0) (c := 0) z32_len2
        have hno : ∀ x ∈ noteV N vZ (0) (0) (z32) (none) (0) (0), x.oneCell' = true := noteV_one
        have hxn : (([] : List UInt8)).length = 0 := by have := HON.out.len; rw [bv_len] at this; exact this
        have hNr : 0 ≤ N ∧ N ≤ 9223372036854775807 := numS_range HE.out.1
        have hv1 : -9223372036854775808 ≤ vZ 1 ∧ vZ 1 ≤ 9223372036854775807 := by rw [HVF.out.2]; simp
        have hv2 : -9223372036854775808 ≤ vZ 2 ∧ vZ 2 ≤ 9223372036854775807 := by rw [HVF.out.2]; simp
        have hv3 : -9223372036854775808 ≤ vZ 3 ∧ vZ 3 ≤ 9223372036854775807 := by rw [HVF.out.2]; simp
        have hv4 : -9223372036854775808 ≤ vZ 4 ∧ vZ 4 ≤ 9223372036854775807 := by rw [HVF.out.2]; simp
        have hput := fun (y : World) (hy : Below wr.heap.size wr y) => refPut_any N (vZ 1) (vZ 2) (vZ 3) (vZ 4) (0) (0) (z32) z32_len2 (none) (0) (0) y.heap.size (([] : List UInt8)) y ((HON.out.below hy (Nat.le_refl _)).rd) (Nat.le_refl _) (by omega) (by omega) (by omega) (by omega) (numL_range hv1 hv2 hv3 hv4)
        unfold MadeE at hput
        obtain ⟨NL, hNL⟩ : ∃ z, noteV N vZ (0) (0) (z32) (none) (0) (0) = z := ⟨_, rfl⟩
        have hNL2 : noteL N (vZ 1) (vZ 2) (vZ 3) (vZ 4) (0) (0) (z32) (none) (0) (0) = NL := hNL
        rw [hNL] at hrng hnl hno
        simp only [hNL2] at hput
        have hinfN : (Tryd.prog.info? 28).map (·.size) = some NL.length := by rw [hnl]; exact info_note
        have hinfZ : (Tryd.prog.info? 28).map (·.size) = some noteZ.length := by rw [noteZ_len]; exact info_note
        obtain ⟨NA, hNA⟩ : ∃ z, NL.toArray = z := ⟨_, rfl⟩
        simp only [hNA] at hput
        have hnal : NA.toList = NL := by rw [← hNA]
        have hnas : NA.size = 40 := by rw [← hNA]; exact hnl
        have hnao : NA.all (·.oneCell') = true := by rw [← hNA]; exact all_oneCell_toArray hno
        have hinfNA : (Tryd.prog.info? 28).map (·.size) = some NA.size := by rw [hnas]; exact info_note
        have HNA := Lib.hid hNA
        have HNL := Lib.hid hNL2
        have hqr : r < wr.heap.size := by have := HW.out.hg; have := HW.out.hbg; have := HW.out.hrb; omega
        clear hNA hNL hNL2 hno
        rcases fitE_two2 N (vZ 1) (vZ 2) (vZ 3) (vZ 4) (0) (0) (z32) (([] : List UInt8)).length with hfe | hfe
        · have hpr : putR N (vZ 1) (vZ 2) (vZ 3) (vZ 4) (0) (0) (z32) (([] : List UInt8)) = (putB N (vZ 1) (vZ 2) (vZ 3) (vZ 4) (0) (0) (z32) (([] : List UInt8)), 0) := by unfold putR; rw [if_pos hfe]
          have hgp := getS_put N (vZ 1) (vZ 2) (vZ 3) (vZ 4) (0) (0) (z32) (([] : List UInt8)) z32_len2 hfe
          have hgo := getS_ok (l := L)
          have hgt := getS_two2 L
          have hgy := fun h => getS_yes HNG.out HRG.out h
          have hgn := fun h => getS_no HNG.out HRG.out h
          rw [hpr] at hput
          simp only at hput hgy hgn
          obtain ⟨pb, hpb⟩ : ∃ z, putB N (vZ 1) (vZ 2) (vZ 3) (vZ 4) (0) (0) (z32) (([] : List UInt8)) = z := ⟨_, rfl⟩
          rw [hpb] at hput hgp
          have HPUT := Lib.hid (hput wr (Below.refl _ _))
          have hLr := fun (y : World) (hy : Below w.heap.size w y) => HH.out.below hy hB
          have HLR := Lib.hid hLr
          clear hput hpr hLr
          go_upto_region 26 with (first
            | (refine wpList_load_mid_g rfl 28 (.tmp 5) rfl g 0 rfl NL _ hrng Tryd.underlying28 rfl hinfN ?_; rw [HNA.out])
            | (go_at_call 25; refine (HPUT.out).mono ?_; rintro e wp ⟨Ap, np, cp, rfl, hop, hbp⟩)
            | fail)
          have trp := dg.there_below HW.out.tr hbp hqr hqr
          have hrngp := dg.range_below hrng hbp HW.out.hg
          have hbelp := (HW.out.bel).trans (hbp.mono HW.out.bel.size)
          have r1 := run_string Tryd.underlying24 Tryd.underlying5 Tryd.underlying9 hop.rd cp
          have r2 := run_string Tryd.underlying24 Tryd.underlying5 Tryd.underlying9 (HLR.out wp hbelp) c
          by_cases hpl : pb = L
          · have hGL : getS L = ⟨N, vZ 1, vZ 2, vZ 3, vZ 4, 0, 0, z32, ([] : List UInt8), 0⟩ := by rw [← hpl]; exact hgp
            rw [hpl] at r1
            have HGL := Lib.hid hGL
            have HOB := Lib.hid (HON.out.below hbp (Nat.le_refl _))
            clear hgp hgo hgt hgy hgn hGL hpl hop
            go_wp2_with (first
              | (refine wpList_load_mid_g rfl 28 (.tmp 5) rfl g 0 rfl NL _ hrngp Tryd.underlying28 rfl hinfN ?_; rw [HNA.out])
              | (refine wpList_store_mid rfl 28 (.tmp 2) (.tmp 127) rfl r 0 NA rfl rfl (by rw [hnas]; exact trp) hinfNA hnao ?_; rw [hnal])
              | fail)
            try simp only [Exit.inBlock, Exit.then]
            refine bodyPost_ret (lz.results_ct rfl _ ⟨r, 0, none⟩ _ rfl (run_loadVar_mid (P := Tryd.prog) _ r 0 28 NL _ (World.rangeAt_setCells_same wp r 0 NL (by rw [hnl]; exact trp)) Tryd.underlying28 rfl hinfN)) rfl ?_
            rw [HGL.out]
            have k9 := keep_o (dg.Keep1.sets r NL 0 wp)
            refine ⟨none, 0, 0, by (try simp only); rw [HNL.out, HNA.out]; rfl, ?_, k9.below hbelp (by have := hbelp.size; omega) (by omega)⟩
            exact Ow.nil _ _ _
          · have hG : getS L = zeroG := by
              rcases hgt with h0 | h0
              · exfalso
                have hy := hgy (by refine Classical.byContradiction fun hcon => ?_; rw [hgn hcon] at h0; exact absurd h0 (by decide))
                have := (hgo h0).1
                rw [hy] at this
                exact hpl (by rw [← hpb]; exact this)
              · exact h0
            have hb1 : ((bs pb).toList == (bs L).toList) = false := by rw [oct.bs_toList, oct.bs_toList]; exact beq_eq_false_iff_ne.2 hpl
            clear hgp hgo hgt hgy hgn hpb hpl hop
            go_wp2_with (first
              | (refine lz.wp_build rfl _ _ rfl (.agg ZA) (by simp only [List.map_toArray, List.map_nil]; exact hbz _) ?_)
              | (refine wpList_store_mid rfl 28 (.tmp 2) (.tmp 126) rfl r 0 ZA rfl rfl (by rw [hzs]; exact trp) hinfZA hzo ?_; rw [hzl])
              | fail)
            try simp only [Exit.inBlock, Exit.then]
            refine bodyPost_ret (lz.results_ct rfl _ ⟨r, 0, none⟩ _ rfl (run_loadVar_mid (P := Tryd.prog) _ r 0 28 noteZ _ (World.rangeAt_setCells_same wp r 0 noteZ (by rw [noteZ_len]; exact trp)) Tryd.underlying28 rfl hinfZ)) rfl ?_
            rw [hG]
            exact ⟨none, 0, 0, rfl, Ow.nil _ _ _, (keep_o (dg.Keep1.sets r noteZ 0 wp)).below hbelp (by have := hbelp.size; omega) (by omega)⟩
        · have hpr : putR N (vZ 1) (vZ 2) (vZ 3) (vZ 4) (0) (0) (z32) (([] : List UInt8)) = ([], 100) := by unfold putR; rw [if_neg (by omega)]
          have hG := getS_no HNG.out HRG.out (by rintro ⟨_, _, h3⟩; (try simp only at h3); rw [hfe] at h3; cases h3)
          rw [hpr] at hput
          have HPUT := Lib.hid (hput wr (Below.refl _ _))
          clear hput hpr
          go_upto_region 26 with (first
            | (refine wpList_load_mid_g rfl 28 (.tmp 5) rfl g 0 rfl NL _ hrng Tryd.underlying28 rfl hinfN ?_; rw [HNA.out])
            | (go_at_call 25; refine (HPUT.out).mono ?_; rintro e wp ⟨Ap, np, cp, rfl, hop, hbp⟩)
            | fail)
          have trp := dg.there_below HW.out.tr hbp hqr hqr
          have hbelp := (HW.out.bel).trans (hbp.mono HW.out.bel.size)
          go_wp2_with (first
            | (refine lz.wp_build rfl _ _ rfl (.agg ZA) (by simp only [List.map_toArray, List.map_nil]; exact hbz _) ?_)
            | (refine wpList_store_mid rfl 28 (.tmp 2) (.tmp 126) rfl r 0 ZA rfl rfl (by rw [hzs]; exact trp) hinfZA hzo ?_; rw [hzl])
            | fail)
          try simp only [Exit.inBlock, Exit.then]
          refine bodyPost_ret (lz.results_ct rfl _ ⟨r, 0, none⟩ _ rfl (run_loadVar_mid (P := Tryd.prog) _ r 0 28 noteZ _ (World.rangeAt_setCells_same wp r 0 noteZ (by rw [noteZ_len]; exact trp)) Tryd.underlying28 rfl hinfZ)) rfl ?_
          rw [hG]
          exact ⟨none, 0, 0, rfl, Ow.nil _ _ _, (keep_o (dg.Keep1.sets r noteZ 0 wp)).below hbelp (by have := hbelp.size; omega) (by omega)⟩
end Go.Proofs.YtbcgnacfhpahkaaDoor.rc
namespace Go.Proofs.YtbcgnacfhpahkaaDoor.recordGetsDone
open Go.RowKit Mem OM LM DM dg rc
set_option maxRecDepth 20000
set_option linter.unusedSimpArgs false
attribute [local go_sem] Oper.semAt_some
theorem noteL_one {N F P D I K S : Int} {d : List UInt8} {A : Option Addr} {n c : Nat} : ∀ x ∈ noteL N F P D I K S d A n c, x.oneCell' = true := by
  intro x hx
  unfold noteL recL at hx
  simp only [List.mem_cons, List.mem_append, List.not_mem_nil, or_false] at hx
  rcases hx with rfl | rfl | rfl | rfl | rfl | rfl | rfl | hx | rfl
  all_goals (first | rfl | skip)
  obtain ⟨b, _, rfl⟩ := List.mem_map.1 hx
  rfl
set_option maxHeartbeats 16000000 in
theorem walk (A : Option Addr) (n c : Nat) (l : List UInt8) (w : World) (hT : Tab w) (hr : Rd w w.heap.size A n (bv l)) (hc : n ≤ c) (_hn : n ≤ 9223372036854775807) :
    Calls Tryd.prog 7 #[.slice A n c] w fun e w' => e = .returned (.bool true) ∧ Below w.heap.size w w' := by
  have hl : l.length = n := by rw [← hr.len, bv_len]
  have hth : ∀ y : World, (y.alloc (.cells noteZ.toArray 28)).there y.heap.size 0 40 := fun y => by have := dg.there_new y noteZ 28; rwa [noteZ_len] at this
  have HT := Lib.hid hT
  have HR := Lib.hid hr
  have HL := Lib.hid hl
  clear hT hr hl
  by_cases hbig : 4096 < n
  · have hbi : (4096 : Int) < n := by omega
    go_enter Tryd.func7, Tryd.ntmps7
    go_wp2_with (go_at_call 12; refine (rc.awake_any _ HT.out).mono ?_; rintro e w1 ⟨rfl, hb1⟩)
    go_ret
    exact ⟨rfl, hb1⟩
  have hbi : ¬ (4096 : Int) < n := by omega
  have hcl := oct.clone_any A n c _ l w HR.out (Nat.le_refl _) (by omega)
  unfold oct.Made at hcl
  have HCL := Lib.hid hcl
  have hgd : (getS l).d.length = 32 := by
    rcases getS_two2 l with h | h
    · exact (getS_ok h).2.2.1
    · rw [h]; exact z32_len2
  have hget := fun (A2 : Option Addr) (n2 c2 : Nat) (y : World) (hy : Rd y y.heap.size A2 n2 (bv l)) (h2 : n2 ≤ 1048576) => get_any A2 n2 c2 _ l y hy (Nat.le_refl _) h2
  have hrget := fun (y : World) (hy : Below w.heap.size w y) => refGet_any A n c w.heap.size l y (HR.out.below hy (Nat.le_refl _)) hy.size (by omega) hc
  unfold GetPost at hget hrget
  obtain ⟨G, hG⟩ : ∃ z, getS l = z := ⟨_, rfl⟩
  simp only [hG] at hget hrget
  rw [hG] at hgd
  have HGET := Lib.hid hget
  have HRGET := Lib.hid hrget
  clear hcl hget hrget hG
  go_enter Tryd.func7, Tryd.ntmps7
  go_upto_region 4 with (go_at_call 17; refine (HCL.out).mono ?_; rintro e w2 ⟨A2, n2, c2, rfl, ho2, hb2⟩)
  have hn2 : n2 ≤ 1048576 := by have := ho2.len; rw [bv_len] at this; have := HL.out; omega
  have HG2 := Lib.hid (HGET.out A2 n2 c2 w2 ho2.rd hn2)
  have HO2 := Lib.hid ho2
  clear ho2 HCL
  go_upto_region 5 with (first
    | (go_at_call 26; refine (HG2.out).mono ?_; rintro e w3 ⟨A3, n3, c3, rfl, ho3, hb3⟩; have hsz3 : (noteL G.N G.F G.P G.D G.I G.K G.S G.d A3 n3 c3).toArray.size = 40 := (by rw [List.size_toArray]; exact noteL_len hgd); have hone3 : (noteL G.N G.F G.P G.D G.I G.K G.S G.d A3 n3 c3).toArray.all (·.oneCell') = true := all_oneCell_toArray noteL_one)
    | (refine wpList_store_mid rfl 28 (.tmp 4) (.tmp 17) rfl w3.heap.size 0 (noteL G.N G.F G.P G.D G.I G.K G.S G.d A3 n3 c3).toArray rfl rfl (by rw [hsz3]; exact hth w3) (by rw [hsz3]; exact info_note) hone3 ?_)
    | fail)
  show Code.wp _ _ _ _ ((w3.alloc (.cells noteZ.toArray 28)).setCells w3.heap.size 0 (noteL G.N G.F G.P G.D G.I G.K G.S G.d A3 n3 c3))
  have hba3 : Below w3.heap.size w3 (w3.alloc (.cells noteZ.toArray 28)) := (Below.refl _ _).alloc (Nat.le_refl _) _
  have hb4 : Below w3.heap.size w3 ((w3.alloc (.cells noteZ.toArray 28)).setCells w3.heap.size 0 (noteL G.N G.F G.P G.D G.I G.K G.S G.d A3 n3 c3)) := (keep_o (dg.Keep1.sets w3.heap.size (noteL G.N G.F G.P G.D G.I G.K G.S G.d A3 n3 c3) 0 (w3.alloc (.cells noteZ.toArray 28)))).below hba3 hba3.size (Nat.le_refl _)
  have hr4 := World.rangeAt_setCells_same (w3.alloc (.cells noteZ.toArray 28)) w3.heap.size 0 (noteL G.N G.F G.P G.D G.I G.K G.S G.d A3 n3 c3) (by rw [noteL_len hgd]; exact hth w3)
  have hs4 : w3.heap.size < ((w3.alloc (.cells noteZ.toArray 28)).setCells w3.heap.size 0 (noteL G.N G.F G.P G.D G.I G.K G.S G.d A3 n3 c3)).heap.size := by rw [dg.setCells_size]; simp
  obtain ⟨w4, hw4⟩ : ∃ z, (w3.alloc (.cells noteZ.toArray 28)).setCells w3.heap.size 0 (noteL G.N G.F G.P G.D G.I G.K G.S G.d A3 n3 c3) = z := ⟨_, rfl⟩
  rw [hw4] at hb4 hr4 hs4 ⊢
  clear hw4 hba3
  try simp only [Act.put]
  have hb04 : Below w.heap.size w w4 := hb2.trans ((hb3.trans (hb4.mono hb3.size)).mono hb2.size)
  have HG4 := Lib.hid (HRGET.out w4 hb04)
  go_upto_region 6 with (first
    | (go_at_call 27; refine (HG4.out).mono ?_; rintro e w5 ⟨A5, n5, c5, rfl, ho5, hb5⟩; have hsz5 : (noteL G.N G.F G.P G.D G.I G.K G.S G.d A5 n5 c5).toArray.size = 40 := (by rw [List.size_toArray]; exact noteL_len hgd); have hone5 : (noteL G.N G.F G.P G.D G.I G.K G.S G.d A5 n5 c5).toArray.all (·.oneCell') = true := all_oneCell_toArray noteL_one)
    | (refine wpList_store_mid rfl 28 (.tmp 6) (.tmp 22) rfl w5.heap.size 0 (noteL G.N G.F G.P G.D G.I G.K G.S G.d A5 n5 c5).toArray rfl rfl (by rw [hsz5]; exact hth w5) (by rw [hsz5]; exact info_note) hone5 ?_)
    | fail)
  show Code.wp _ _ _ _ ((w5.alloc (.cells noteZ.toArray 28)).setCells w5.heap.size 0 (noteL G.N G.F G.P G.D G.I G.K G.S G.d A5 n5 c5))
  have hba5 : Below w5.heap.size w5 (w5.alloc (.cells noteZ.toArray 28)) := (Below.refl _ _).alloc (Nat.le_refl _) _
  have hb6 : Below w5.heap.size w5 ((w5.alloc (.cells noteZ.toArray 28)).setCells w5.heap.size 0 (noteL G.N G.F G.P G.D G.I G.K G.S G.d A5 n5 c5)) := (keep_o (dg.Keep1.sets w5.heap.size (noteL G.N G.F G.P G.D G.I G.K G.S G.d A5 n5 c5) 0 (w5.alloc (.cells noteZ.toArray 28)))).below hba5 hba5.size (Nat.le_refl _)
  have hr6 := World.rangeAt_setCells_same (w5.alloc (.cells noteZ.toArray 28)) w5.heap.size 0 (noteL G.N G.F G.P G.D G.I G.K G.S G.d A5 n5 c5) (by rw [noteL_len hgd]; exact hth w5)
  have hs6 : w5.heap.size < ((w5.alloc (.cells noteZ.toArray 28)).setCells w5.heap.size 0 (noteL G.N G.F G.P G.D G.I G.K G.S G.d A5 n5 c5)).heap.size := by rw [dg.setCells_size]; simp
  obtain ⟨w6, hw6⟩ : ∃ z, (w5.alloc (.cells noteZ.toArray 28)).setCells w5.heap.size 0 (noteL G.N G.F G.P G.D G.I G.K G.S G.d A5 n5 c5) = z := ⟨_, rfl⟩
  rw [hw6] at hb6 hr6 hs6 ⊢
  clear hw6 hba5
  try simp only [Act.put]
  have hb46 : Below w4.heap.size w4 w6 := hb5.trans (hb6.mono hb5.size)
  have hr46 := dg.range_below hr4 hb46 hs4
  have hb06 : Below w.heap.size w w6 := hb04.trans (hb46.mono hb04.size)
  have ho36 := (ho3.below hb4 (Nat.le_refl _)).below hb46 (Nat.le_refl _)
  have ho56 := ho5.below hb6 (Nat.le_refl _)
  have hsm := refSameNote_any G.N G.F G.P G.D G.I G.K G.S G.d hgd A3 A5 n3 c3 n5 c5 _ G.x w6 ho36.rd ho56.rd (Nat.le_refl _)
  have hi3 : (Tryd.prog.info? 28).map (·.size) = some (noteL G.N G.F G.P G.D G.I G.K G.S G.d A3 n3 c3).length := by rw [noteL_len hgd]; exact info_note
  have hi5 : (Tryd.prog.info? 28).map (·.size) = some (noteL G.N G.F G.P G.D G.I G.K G.S G.d A5 n5 c5).length := by rw [noteL_len hgd]; exact info_note
  obtain ⟨L3, hL3⟩ : ∃ z, noteL G.N G.F G.P G.D G.I G.K G.S G.d A3 n3 c3 = z := ⟨_, rfl⟩
  obtain ⟨L5, hL5⟩ : ∃ z, noteL G.N G.F G.P G.D G.I G.K G.S G.d A5 n5 c5 = z := ⟨_, rfl⟩
  rw [hL3] at hr46 hi3 hsm
  rw [hL5] at hr6 hi5 hsm
  have HSM := Lib.hid hsm
  obtain ⟨g3, hg3⟩ : ∃ z, w3.heap.size = z := ⟨_, rfl⟩
  obtain ⟨g5, hg5⟩ : ∃ z, w5.heap.size = z := ⟨_, rfl⟩
  rw [hg3] at hr46
  rw [hg5] at hr6
  try rw [hg3]
  try rw [hg5]
  have hee : ((G.e : Nat) : Int) = ((G.e : Nat) : Int) := rfl
  have H6 := Lib.hid (And.intro hb06 (HO2.out.below ((hb3.trans (hb4.mono hb3.size)).trans (hb46.mono (Nat.le_trans hb3.size hb4.size))) (Nat.le_refl _)))
  clear hsm ho36 ho56 hb46 hb06 hb04 hr4 hL3 hL5 hb3 hb4 hb5 hb6 ho3 ho5 hsz3 hone3 hsz5 hone5
  go_wp2_with (first
    | (refine wpList_load_mid_g rfl 28 (.tmp 4) rfl g3 0 rfl L3 _ hr46 Tryd.underlying28 rfl hi3 ?_)
    | (refine wpList_load_mid_g rfl 28 (.tmp 6) rfl g5 0 rfl L5 _ hr6 Tryd.underlying28 rfl hi5 ?_)
    | (go_at_call 28; refine (HSM.out).mono ?_; rintro e w7 ⟨rfl, hb7⟩; have hb07 : Below w.heap.size w w7 := H6.out.1.trans (hb7.mono H6.out.1.size); have heq := oct.equal_any A2 A n2 c2 n c w7.heap.size l l w7 ((H6.out.2.below hb7 (Nat.le_refl _)).rd) ((HR.out.below hb07 (Nat.le_refl _)).more hb07.size); rw [decide_eq_true rfl] at heq)
    | (go_at_call 21; refine heq.mono ?_; rintro e w8 ⟨rfl, hw8⟩; subst hw8)
    | (go_at_call 12; refine (rc.awake_any _ (HT.out.below hb07)).mono ?_; rintro e w9 ⟨rfl, hb9⟩)
    | fail)
  go_ret
  exact ⟨rfl, hb07.trans (hb9.mono hb07.size)⟩
end Go.Proofs.YtbcgnacfhpahkaaDoor.recordGetsDone
namespace Go.Proofs.YtbcgnacfhpahkaaDoor.recordGetsDone
open Go.ChangeShapes Go.WideShapes Go.ChangeAt Go.RowKit Mem OM LM DM dg rc
set_option linter.unusedVariables false
set_option maxRecDepth 100000
theorem contract (H : Type) (enc : TypeId × Value → H) (W : World) (base : Nat) (args : Array Value) (ds gs : List (DataW H)) (before : List MemPlace)
    (hval : ∀ (j : Nat) t v, Tryd.f7.params[j]? = some t → args[j]? = some v → Value.okWide Tryd.prog W .any base t v)
    (hW : DataW.Whole enc Tryd.prog Tryd.f7.params.toList Rows.recordGetsSpec.vars false W args.toList ds gs before) (hL : laidMetH Tryd.prog Rows.recordGetsRow.laid W) :
    Calls Tryd.prog 7 args W fun e W' => ∃ v, e = .returned v ∧ Rows.recordGetsSpec.post enc Tryd.prog Tryd.f7 false true false false W args v W' := by
  have hW' := hW
  have hT : Tab W := table rfl hL
  obtain ⟨p, q, hA0, hV, rfl, hfz, hnd⟩ := hW
  have hA : DataW.TrodAll enc Tryd.prog W 0 (fun _ => true) true Tryd.f7.params.toList args.toList ds p := hA0
  rw [Tryd.params7] at hA hval
  obtain ⟨v0, vs0, d0, ds0, p0, q0, hargs, rfl, rfl, h0, r0⟩ := trodAll_cons hA
  obtain ⟨rfl, rfl, rfl⟩ := trodAll_nil r0
  obtain rfl : args = #[v0] := by cases args; simp_all
  obtain ⟨rfl, rfl⟩ := trodVars_none hV
  obtain ⟨a0, n0, c0, rfl⟩ := okWide_slice Tryd.underlying24 (hval 0 24 v0 rfl rfl)
  have k0 := h0
  have lt0 : ∀ x ∈ p0, x.block < W.heap.size := by obtain ⟨m, hm⟩ := k0; exact DataW.trod_lt m _ _ _ hm
  obtain ⟨l0, w0, m0, b0⟩ : ∃ l : List UInt8, Rd W W.heap.size a0 n0 (bv l) ∧ n0 ≤ c0 ∧ n0 ≤ 9223372036854775807 := by
    obtain ⟨fuel, hf⟩ := h0
    rcases open_ints Tryd.underlying24 Tryd.underlying5 (by kernel_rfl) hf with ⟨hcs, _⟩ | ⟨x, l, c, zs, hcs, _, hl, hm, hz, _, hcell, hwz⟩
    · simp [Value.cells] at hcs
      obtain ⟨rfl, rfl, rfl⟩ := hcs
      exact ⟨[], Rd.nil _ _ _, Nat.le_refl _, by omega⟩
    · simp [Value.cells] at hcs
      obtain ⟨rfl, rfl, rfl⟩ := hcs
      unfold maxLen at hm
      obtain ⟨l, hl2⟩ := rd_bytes hl (by simpa using hz) hcell hwz
      exact ⟨l, hl2, hl, by omega⟩
  clear hA0 hval
  refine (walk a0 n0 c0 l0 W hT w0 m0 b0).mono fun e W' ⟨he, bel⟩ => ?_
  subst he
  exact ⟨_, rfl, _, _, _, [], _, [], hW', trodAll_mk1 (shut_bool Tryd.underlying4 _), (trodAll_cons_mk (Below.trod laidOut (by kernel_rfl) (of_decide_eq_true (by kernel_rfl)) k0 bel lt0) trodAll_mk0), rfl, bel.frame _, fun h => by cases h⟩

theorem laid_met (os : Os) : laidMet Tryd.prog Rows.recordGetsRow.laid ((laidWorld os).forCall (fun _ _ => 0) ⟨#[], #[.slice none 0 0], []⟩).memory :=
  laidMet_of_run' 8 (by kernel_rfl) (by kernel_rfl)
theorem reads (os : Os) {H : Type} (enc : TypeId × Value → H) : ∃ places, DataW.whole enc Tryd.prog ((laidWorld os).forCall (fun _ _ => 0) ⟨#[], #[.slice none 0 0], []⟩).memory Tryd.f7.params.toList Rows.recordGetsSpec.vars false (#[.slice none 0 0] : Array Value).toList 8 = some ([.nil], [], places) :=
  ⟨[], by kernel_rfl⟩
set_option maxRecDepth 100000 in
theorem lifted (os : Os) (started : os.Started) (H : Type) (enc : TypeId × Value → H) (F : Stop.Interp) :
    ReturnsInHanded {} Tryd.checked os 7 .any ((OpenSpec.ofChange Rows.recordGetsSpec).preRow enc Tryd.prog Tryd.f7 Rows.recordGetsRow.domain false Rows.recordGetsRow.laid) (((OpenSpec.ofChange Rows.recordGetsSpec).at F).post enc Tryd.prog Tryd.f7 false true false false) := by
  obtain ⟨places, hx⟩ := reads os enc
  refine returnsInHanded_of_row (C := Tryd.checked) (s := OpenSpec.ofChange Rows.recordGetsSpec) own started (by kernel_rfl) Tryd.func7
    (witness_row_at (enc := enc) (C := Tryd.checked) false (laidWorld os) #[.slice none 0 0] rfl (by kernel_rfl) (by kernel_rfl) (by kernel_rfl)
      (OpenSpec.preRow_of_cond 8 hx (by kernel_rfl) (fun k hk => by cases hk) (by kernel_rfl) (laid_met os))) ?_
  intro W base args ds gs before hval hW _ _ _ hL _ _
  exact contract H enc W base args ds gs before hval hW hL
theorem said : Rows.RecordGetsSaid :=
  OpenClaim.holds_of_cond 7 Tryd.f7 rfl rfl rfl rfl rfl rfl rfl ⟨rfl, rfl, rfl, rfl, rfl⟩ rfl rfl rfl rfl rfl (by kernel_rfl) Tryd.func7 (by kernel_rfl)
    (of_decide_eq_true (by kernel_rfl)) (by unfold Func.isWrapper; first | (rw [if_pos (by decide +kernel)]; kernel_rfl) | (rw [if_neg (by decide +kernel)]; exact ⟨rfl, rfl⟩))
    (fun os started H enc _ F => by rw [OpenClaim.pre_eq_preRow]; exact lifted os started H enc F)
theorem plain (f : FuncId) (fn : Func) (hf : Tryd.pinned.checked.prog.funcNamed "flume/flumelaw10.RecordGets" = some f) (hfn : Tryd.pinned.checked.prog.funcs[f]? = some fn) :
    false = Tryd.pinned.checked.prog.looks [] ∧ ∀ (j : Nat) t, fn.params[j]? = some t → Tryd.pinned.checked.prog.wantsStandIn t = false := by
  obtain rfl : f = 7 := Option.some.inj ((show Tryd.prog.funcNamed "flume/flumelaw10.RecordGets" = some 7 by kernel_rfl).symm.trans hf) |>.symm
  obtain rfl : fn = Tryd.f7 := (Option.some.inj (Tryd.func7.symm.trans hfn)).symm
  refine ⟨by kernel_rfl, fun j t ht => ?_⟩
  rw [Tryd.params7] at ht
  have hm : t ∈ [24] := by simpa using Array.mem_of_getElem? ht
  have hall : ([24].all fun u => !Tryd.prog.wantsStandIn u) = true := by kernel_rfl
  exact (show Tryd.prog.wantsStandIn t = false by simpa using List.all_eq_true.1 hall t hm)
/-- the given statement -/
theorem proved : Rows.RecordGetsCardSaid :=
  Claim7.holds_tied_plain_at .later [] _ _ _ _ said (fun _ h => by cases h) (by kernel_rfl) (fun _ h => by cases h) recordGets_row_tie rfl ⟨rfl, rfl⟩ (by kernel_rfl) rfl plain (by kernel_rfl)
#print axioms proved
end Go.Proofs.YtbcgnacfhpahkaaDoor.recordGetsDone
