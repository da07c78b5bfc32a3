/- record: Make, of a chunk that is not known. -/
import Derived.Test.YtbcgnacfhpahkaaDoorRcD
namespace Go.Proofs.YtbcgnacfhpahkaaDoor.rc
set_option maxRecDepth 20000
open Go.RowKit Mem OM LM DM
set_option linter.unusedVariables false
set_option linter.unusedSimpArgs false
attribute [local go_sem] Oper.semAt_some
theorem MkAt.later {w W W' : World} {g2 : Nat} {R : List Value} (h : MkAt w W g2 R) (hb : Below W.heap.size W W') : MkAt w W' g2 R :=
  ⟨dg.range_below h.range hb h.lt.2, dg.there_below h.th2 hb h.lt.2 h.lt.2, dg.there_below h.th hb (Nat.lt_trans h.lt.1 h.lt.2) (Nat.lt_trans h.lt.1 h.lt.2), h.below.trans (hb.mono h.below.size), h.lt.1, Nat.lt_of_lt_of_le h.lt.2 hb.size⟩
theorem MkAt.cells {w W : World} {g2 : Nat} {K S : Int} {d : List UInt8} {A : Option Addr} {n c : Nat} (hd : d.length = 32) (h : MkAt w W g2 (recL K S d A n c)) :
    W.cell? ⟨g2, 0, none⟩ = some (.int .i64 K) ∧ W.frozen? ⟨g2, 0, none⟩ = false ∧ W.cell? ⟨g2, 34, none⟩ = some (.slice A n c) ∧ W.frozen? ⟨g2, 34, none⟩ = false :=
  ⟨h.range 0 _ rfl, (h.th2 0 (by omega)).2, h.range 34 _ (recL_34 hd), (h.th2 34 (by omega)).2⟩
theorem MkAt.store {w W : World} {g2 : Nat} {K S : Int} {d : List UInt8} {A : Option Addr} {n c : Nat} (hd : d.length = 32) (h : MkAt w W g2 (recL K S d A n c)) (K' : Int) (A' : Option Addr) (n' c' : Nat) :
    MkAt w ((W.setCell ⟨g2, 0, none⟩ (.int .i64 K')).setCell ⟨g2, 34, none⟩ (.slice A' n' c')) g2 (recL K' S d A' n' c') := by
  have h1 := range_set1 (range_set1 h.range 0 (.int .i64 K')) 34 (.slice A' n' c')
  rw [rec_set0, rec_set34 hd] at h1
  refine ⟨h1, there_set1 (there_set1 h.th2 _ _ _) _ _ _, there_set1 (there_set1 h.th _ _ _) _ _ _, ?_, h.lt.1, by rw [World.size_setCell, World.size_setCell]; exact h.lt.2⟩
  have k := (dg.Keep1.set W g2 0 (.int .i64 K')).trans (dg.Keep1.set _ g2 34 (.slice A' n' c'))
  exact k.below h.below h.below.size (Nat.le_of_lt h.lt.1)
theorem keep_ow {w w' : World} {b B n c : Nat} {E : TypeId} {A : Option Addr} {xs : List Value} (h : dg.Keep1 w w' b) (ho : Ow w B E A n c xs) (hb : b < B) : Ow w' B E A n c xs :=
  oct.Keep1.ow ⟨h.os, h.tape, h.output, h.size, h.block⟩ ho hb
/-- a new chunk's kind, and its data -/
def mkK (l : List UInt8) : Int := if (shB l).length < l.length then 3 else 2
def mkD (l : List UInt8) : List UInt8 := if (shB l).length < l.length then shB l else l
theorem mkD_lt (l : List UInt8) (h : (shB l).length < l.length) : mkD l = shB l := if_pos h
theorem mkK_lt (l : List UInt8) (h : (shB l).length < l.length) : mkK l = 3 := if_pos h
theorem mkD_ge (l : List UInt8) (h : ¬ (shB l).length < l.length) : mkD l = l := if_neg h
theorem mkK_ge (l : List UInt8) (h : ¬ (shB l).length < l.length) : mkK l = 2 := if_neg h
set_option maxHeartbeats 4000000 in
theorem make_new (A0 : Option Addr) (n c0 B : Nat) (l : List UInt8) (w : World) (h : Rd w B A0 n (bv l)) (hB : B ≤ w.heap.size) (hc : n ≤ c0) (hT : dg.Tab w) (hn : fitsS (n : Nat) = true) :
    Calls Tryd.prog 18 #[.slice A0 n c0, .bool false] w (MadeR w (mkK l) (n : Nat) (digest l) (mkD l) 0) := by
  have hl : l.length = n := by rw [← h.len, bv_len]
  have hn256 : 1 ≤ n ∧ n ≤ 256 := by
    unfold fitsS at hn
    have := of_decide_eq_true hn
    omega
  have hFS := fun y => fitsSize_any (n : Nat) y
  rw [hn] at hFS
  have hb0 : Below w.heap.size w (w.alloc (.cells recZ.toArray 26)) := (Below.refl _ _).alloc (Nat.le_refl _) _
  have hs0 : (w.alloc (.cells recZ.toArray 26)).heap.size = w.heap.size + 1 := by simp
  have hp := dg.Parts.one ((h.more hB).below hb0 (Nat.le_refl _) |>.more (by omega)) hc (Nat.le_refl _) 24
  have hof := dg.of_any _ 1 1 _ _ _ (hT.below (hb0.alloc (by rw [hs0]; omega) (.cells #[.slice A0 n c0] 24))) hp (by simp) (by omega) (by rw [dg.tot_flat]; simp; omega)
  rw [show [l].flatten = l by simp, hs0] at hof
  have hd := digest_len l
  have hbr := fun y => build_rec (digest l) hd (n : Nat) y
  have hR35 := recL_len (K := 1) (S := (n : Nat)) (A := none) (n := 0) (c := 0) hd
  have hone : ∀ v ∈ recL 1 (n : Nat) (digest l) none 0 0, v.oneCell' = true := rec_one
  obtain ⟨RL, hRL⟩ : ∃ RL, recL 1 (n : Nat) (digest l) none 0 0 = RL := ⟨_, rfl⟩
  rw [hRL] at hR35 hone
  simp only [hRL] at hbr
  obtain ⟨DA, hDA⟩ : ∃ DA, (bv (digest l)).toArray = DA := ⟨_, rfl⟩
  rw [hDA] at hof
  simp only [hDA] at hbr
  have hmk := fun w2 hb => mk_at w w2 26 (.slice A0 n c0) 24 RL hR35 hb
  obtain ⟨RA, hRA⟩ : ∃ RA, RL.toArray = RA := ⟨_, rfl⟩
  simp only [hRA] at hbr
  have hRAL : RA.toList = RL := by rw [← hRA]
  have hone2 : RA.all (·.oneCell') = true := by rw [← hRA]; exact all_oneCell_toArray hone
  have hsz : RA.size = 35 := by rw [← hRA]; exact hR35
  have hth2 : ∀ y : World, (y.alloc (.cells recZ.toArray 26)).there y.heap.size 0 RA.size := fun y => by rw [hsz]; exact rec_zero_there y
  have hinf : (Tryd.prog.info? 26).map (·.size) = some RA.size := by rw [hsz]; exact info_rec
  have HD := Lib.hid (And.intro hRL (And.intro hRA hDA))
  have HOF := Lib.hid hof
  have HH := Lib.hid h
  clear hDA hof hp hRL hRA h
  unfold MadeR
  go_enter Tryd.func18, Tryd.ntmps18
  go_upto_region 1 with fail
  show Code.wp _ _ _ _ (w.alloc (.cells recZ.toArray 26))
  obtain ⟨W0, hW0⟩ : ∃ W0, w.alloc (.cells recZ.toArray 26) = W0 := ⟨_, rfl⟩
  rw [hW0] at HOF hb0 hs0 ⊢
  simp only [hW0] at hmk
  go_upto_region 4 with (first
    | (go_at_call 31; refine (hFS _).mono ?_; rintro e w' ⟨rfl, hw'⟩; rw [hw'])
    | (go_at_call 29; refine (HOF.out).mono ?_; rintro e w2 ⟨rfl, hb2⟩)
    | (refine lz.wp_build rfl _ _ rfl (.agg RA) (by simp only [List.map_toArray, List.map_nil, List.map_cons]; exact hbr _) ?_)
    | (refine wpList_store_mid rfl 26 (.tmp 6) (.tmp 17) rfl w2.heap.size 0 RA rfl rfl (hth2 w2) hinf hone2 ?_)
    | fail)
  have hM := hmk w2 (hb2.mono (by simp; omega))
  show Code.wp _ _ _ _ ((w2.alloc (.cells recZ.toArray 26)).setCells w2.heap.size 0 RA.toList)
  rw [hRAL]
  obtain ⟨W4, hW4⟩ : ∃ W4, (w2.alloc (.cells recZ.toArray 26)).setCells w2.heap.size 0 RL = W4 := ⟨_, rfl⟩
  rw [hW4] at hM ⊢
  clear hW4 hmk hth2
  obtain ⟨g2, hg2⟩ : ∃ g2, w2.heap.size = g2 := ⟨_, rfl⟩
  rw [hg2] at hM ⊢
  clear hg2 hb2 HOF hbr
  have hinfL : (Tryd.prog.info? 26).map (·.size) = some RL.length := by rw [hR35]; exact info_rec
  have hM4 : MkAt w W4 g2 (recL 1 (n : Nat) (digest l) none 0 0) := by rw [HD.out.1]; exact hM
  have HSH := Lib.hid (lz.shorten_any A0 n c0 B l W4 (HH.out.below hM.below hB) (Nat.le_trans hB hM.below.size) hc (by omega))
  have HL := Lib.hid hl
  clear hM hinf hone2 hsz hRAL hR35 hone
  go_wp2_with fail
  refine (HSH.out).mono ?_
  rintro e w5 ⟨A5, N5, c5, rfl, ho5, hb5⟩
  have hN5 : (shB l).length = N5 := by have := ho5.len; rw [bv_len] at this; exact this
  have hM5 := hM4.later hb5
  obtain ⟨q0, q1, q34, q35⟩ := hM5.cells hd
  have hM6 := hM5.store hd 3 A5 N5 c5
  have ho6 : Ow ((w5.setCell ⟨g2, 0, none⟩ (.int .i64 3)).setCell ⟨g2, 34, none⟩ (.slice A5 N5 c5)) W4.heap.size 5 A5 N5 c5 (bv (shB l)) := keep_ow ((dg.Keep1.set w5 g2 0 (.int .i64 3)).trans (dg.Keep1.set _ g2 34 (.slice A5 N5 c5))) ho5 hM4.lt.2
  have hs6 : W4.heap.size ≤ ((w5.setCell ⟨g2, 0, none⟩ (.int .i64 3)).setCell ⟨g2, 34, none⟩ (.slice A5 N5 c5)).heap.size := by rw [World.size_setCell, World.size_setCell]; exact hb5.size
  have HO := Lib.hid (And.intro ho6 (And.intro hN5 (And.intro hM4.lt hM4.below.size)))
  clear ho5 hb5 hM5 hN5 hM4 ho6
  by_cases hlt : N5 < n
  · have hge : ¬ (n : Int) ≤ (N5 : Int) := by omega
    go_upto_region 9 with fail
    obtain ⟨W6, hW6⟩ : ∃ W6, (w5.setCell ⟨g2, 0, none⟩ (.int .i64 3)).setCell ⟨g2, 34, none⟩ (.slice A5 N5 c5) = W6 := ⟨_, rfl⟩
    rw [hW6] at hM6 HO hs6 ⊢
    have HM6 := Lib.hid hM6
    have hX35 := recL_len (K := 3) (S := (n : Nat)) (A := A5) (n := N5) (c := c5) hd
    have honeX : ∀ v ∈ recL 3 (n : Nat) (digest l) A5 N5 c5, v.oneCell' = true := rec_one
    have hrx := hM6.range
    have htx := hM6.th
    have hrr := World.rangeAt_setCells_same W6 w.heap.size 0 (recL 3 (n : Nat) (digest l) A5 N5 c5) (by rw [hX35]; exact htx)
    obtain ⟨XL, hXL⟩ : ∃ XL, recL 3 (n : Nat) (digest l) A5 N5 c5 = XL := ⟨_, rfl⟩
    rw [hXL] at hX35 honeX hrx hrr HM6
    have hinfX : (Tryd.prog.info? 26).map (·.size) = some XL.length := by rw [hX35]; exact info_rec
    obtain ⟨XA, hXA⟩ : ∃ XA, XL.toArray = XA := ⟨_, rfl⟩
    have hXAL : XA.toList = XL := by rw [← hXA]
    have honeA : XA.all (·.oneCell') = true := by rw [← hXA]; exact all_oneCell_toArray honeX
    have hszX : XA.size = 35 := by rw [← hXA]; exact hX35
    have hinfA : (Tryd.prog.info? 26).map (·.size) = some XA.size := by rw [hszX]; exact info_rec
    have hthA : W6.there w.heap.size 0 XA.size := by rw [hszX]; exact htx
    have HX := Lib.hid (And.intro hXL hXA)
    clear hXL hXA hM6
    go_wp2_with (first
      | (refine wpList_load_mid rfl 26 (.tmp 6) rfl g2 0 rfl XL _ hrx Tryd.underlying26 rfl hinfX ?_; rw [HX.out.2])
      | (refine wpList_store_mid rfl 26 (.tmp 4) (.tmp 34) rfl w.heap.size 0 XA rfl rfl hthA hinfA honeA ?_; rw [hXAL])
      | fail)
    try simp only [Exit.inBlock, Exit.then]
    refine bodyPost_ret (lz.results_ct rfl _ ⟨w.heap.size, 0, none⟩ _ rfl (run_loadVar_mid (P := Tryd.prog) _ w.heap.size 0 26 XL _ hrr Tryd.underlying26 rfl hinfX)) rfl ?_
    exact ⟨A5, N5, c5, by rw [mkK_lt l (by rw [HL.out, HO.out.2.1]; exact hlt), HX.out.1]; rfl, by rw [mkD_lt l (by rw [HL.out, HO.out.2.1]; exact hlt)]; exact (keep_ow (dg.Keep1.sets w.heap.size XL 0 W6) HO.out.1 (Nat.lt_trans HO.out.2.2.1.1 HO.out.2.2.1.2)).base HO.out.2.2.2, (dg.Keep1.sets w.heap.size XL 0 W6).below HM6.out.below HM6.out.below.size (Nat.le_refl _)⟩
  · have hge : (n : Int) ≤ (N5 : Int) := by omega
    go_upto_region 8 with fail
    obtain ⟨V6, hV6⟩ : ∃ V6, (w5.setCell ⟨g2, 0, none⟩ (.int .i64 3)).setCell ⟨g2, 34, none⟩ (.slice A5 N5 c5) = V6 := ⟨_, rfl⟩
    rw [hV6] at hM6 HO hs6 ⊢
    clear hV6 q0 q1 q34 q35
    have HCL := Lib.hid (bclone_any A0 n c0 B l V6 (HH.out.below hM6.below hB) (Nat.le_trans hB hM6.below.size) (by omega))
    have HV := Lib.hid hM6
    clear hM6
    go_upto_region 9 with (go_at_call 36; refine (HCL.out).mono ?_; rintro e w7 ⟨A7, N7, c7, rfl, ho7, hb7⟩; obtain ⟨p0, p1, p34, p35⟩ := (HV.out.later hb7).cells hd)
    have hM6 := (HV.out.later hb7).store hd 2 A7 N7 c7
    have ho8 : Ow ((w7.setCell ⟨g2, 0, none⟩ (.int .i64 2)).setCell ⟨g2, 34, none⟩ (.slice A7 N7 c7)) V6.heap.size 5 A7 N7 c7 (bv l) := keep_ow ((dg.Keep1.set w7 g2 0 (.int .i64 2)).trans (dg.Keep1.set _ g2 34 (.slice A7 N7 c7))) ho7 HV.out.lt.2
    obtain ⟨W6, hW6⟩ : ∃ W6, (w7.setCell ⟨g2, 0, none⟩ (.int .i64 2)).setCell ⟨g2, 34, none⟩ (.slice A7 N7 c7) = W6 := ⟨_, rfl⟩
    rw [hW6] at hM6 ho8 ⊢
    have HO8 := Lib.hid ho8
    clear hW6 p0 p1 p34 p35 ho7 hb7 ho8
    have HM6 := Lib.hid hM6
    have hX35 := recL_len (K := 2) (S := (n : Nat)) (A := A7) (n := N7) (c := c7) hd
    have honeX : ∀ v ∈ recL 2 (n : Nat) (digest l) A7 N7 c7, v.oneCell' = true := rec_one
    have hrx := hM6.range
    have htx := hM6.th
    have hrr := World.rangeAt_setCells_same W6 w.heap.size 0 (recL 2 (n : Nat) (digest l) A7 N7 c7) (by rw [hX35]; exact htx)
    obtain ⟨XL, hXL⟩ : ∃ XL, recL 2 (n : Nat) (digest l) A7 N7 c7 = XL := ⟨_, rfl⟩
    rw [hXL] at hX35 honeX hrx hrr HM6
    have hinfX : (Tryd.prog.info? 26).map (·.size) = some XL.length := by rw [hX35]; exact info_rec
    obtain ⟨XA, hXA⟩ : ∃ XA, XL.toArray = XA := ⟨_, rfl⟩
    have hXAL : XA.toList = XL := by rw [← hXA]
    have honeA : XA.all (·.oneCell') = true := by rw [← hXA]; exact all_oneCell_toArray honeX
    have hszX : XA.size = 35 := by rw [← hXA]; exact hX35
    have hinfA : (Tryd.prog.info? 26).map (·.size) = some XA.size := by rw [hszX]; exact info_rec
    have hthA : W6.there w.heap.size 0 XA.size := by rw [hszX]; exact htx
    have HX := Lib.hid (And.intro hXL hXA)
    clear hXL hXA hM6
    go_wp2_with (first
      | (refine wpList_load_mid rfl 26 (.tmp 6) rfl g2 0 rfl XL _ hrx Tryd.underlying26 rfl hinfX ?_; rw [HX.out.2])
      | (refine wpList_store_mid rfl 26 (.tmp 4) (.tmp 34) rfl w.heap.size 0 XA rfl rfl hthA hinfA honeA ?_; rw [hXAL])
      | fail)
    try simp only [Exit.inBlock, Exit.then]
    refine bodyPost_ret (lz.results_ct rfl _ ⟨w.heap.size, 0, none⟩ _ rfl (run_loadVar_mid (P := Tryd.prog) _ w.heap.size 0 26 XL _ hrr Tryd.underlying26 rfl hinfX)) rfl ?_
    exact ⟨A7, N7, c7, by rw [mkK_ge l (by rw [HL.out, HO.out.2.1]; exact hlt), HX.out.1]; rfl, by rw [mkD_ge l (by rw [HL.out, HO.out.2.1]; exact hlt)]; exact (keep_ow (dg.Keep1.sets w.heap.size XL 0 W6) HO8.out (Nat.lt_trans HV.out.lt.1 HV.out.lt.2)).base HV.out.below.size, (dg.Keep1.sets w.heap.size XL 0 W6).below HM6.out.below HM6.out.below.size (Nat.le_refl _)⟩
end Go.Proofs.YtbcgnacfhpahkaaDoor.rc
