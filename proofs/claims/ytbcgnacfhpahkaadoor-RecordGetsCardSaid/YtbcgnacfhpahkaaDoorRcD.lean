/- record: Make, of a chunk that may be one. -/
import Derived.Test.YtbcgnacfhpahkaaDoorRcC
namespace Go.Proofs.YtbcgnacfhpahkaaDoor.rc
set_option maxRecDepth 20000
open Go.RowKit Mem OM LM DM
set_option linter.unusedVariables false
set_option linter.unusedSimpArgs false
attribute [local go_sem] Oper.semAt_some
theorem digest_len (l : List UInt8) : (digest l).length = 32 := dg.flat_len _
theorem rec_zero_there (y : World) : (y.alloc (.cells recZ.toArray 26)).there y.heap.size 0 35 := by
  have := dg.there_new y recZ 26
  rwa [recZ_len] at this
set_option maxHeartbeats 2000000 in
theorem make_known (A0 : Option Addr) (n c0 B : Nat) (l : List UInt8) (w : World) (h : Rd w B A0 n (bv l)) (hB : B ≤ w.heap.size) (hc : n ≤ c0) (hT : dg.Tab w) (hn : fitsS (n : Nat) = true) :
    Calls Tryd.prog 18 #[.slice A0 n c0, .bool true] w (MadeR w 1 (n : Nat) (digest l) [] 0) := by
  have hl : l.length = n := by rw [← h.len, bv_len]
  have hn256 : 1 ≤ n ∧ n ≤ 256 := by
    unfold fitsS at hn
    have := of_decide_eq_true hn
    omega
  have hFS := fun y => fitsSize_any (n : Nat) y
  rw [hn] at hFS
  have hb0 : Below w.heap.size w (w.alloc (.cells recZ.toArray 26)) := (Below.refl _ _).alloc (Nat.le_refl _) _
  have hs0 : (w.alloc (.cells recZ.toArray 26)).heap.size = w.heap.size + 1 := by simp
  have hp := dg.Parts.one ((h.more hB).below hb0 (Nat.le_refl _) |>.more (by omega)) hc (Nat.le_refl _) 24
  have hof := dg.of_any _ 1 1 _ _ _ (hT.below (hb0.alloc (by rw [hs0]; omega) (.cells #[.slice A0 n c0] 24))) hp (by simp) (by omega) (by rw [dg.tot_flat]; simp; omega)
  rw [show [l].flatten = l by simp, hs0] at hof
  have hd := digest_len l
  have hbr := fun y => build_rec (digest l) hd (n : Nat) y
  have hR35 := recL_len (K := 1) (S := (n : Nat)) (A := none) (n := 0) (c := 0) hd
  have hone : ∀ v ∈ recL 1 (n : Nat) (digest l) none 0 0, v.oneCell' = true := rec_one
  obtain ⟨RL, hRL⟩ : ∃ RL, recL 1 (n : Nat) (digest l) none 0 0 = RL := ⟨_, rfl⟩
  rw [hRL] at hR35 hone
  simp only [hRL] at hbr
  obtain ⟨DA, hDA⟩ : ∃ DA, (bv (digest l)).toArray = DA := ⟨_, rfl⟩
  rw [hDA] at hof
  simp only [hDA] at hbr
  have hmk := fun w2 hb => mk_at w w2 26 (.slice A0 n c0) 24 RL hR35 hb
  obtain ⟨RA, hRA⟩ : ∃ RA, RL.toArray = RA := ⟨_, rfl⟩
  simp only [hRA] at hbr
  have hRAL : RA.toList = RL := by rw [← hRA]
  have hone2 : RA.all (·.oneCell') = true := by rw [← hRA]; exact all_oneCell_toArray hone
  have hsz : RA.size = 35 := by rw [← hRA]; exact hR35
  have hth2 : ∀ y : World, (y.alloc (.cells recZ.toArray 26)).there y.heap.size 0 RA.size := fun y => by rw [hsz]; exact rec_zero_there y
  have hinf : (Tryd.prog.info? 26).map (·.size) = some RA.size := by rw [hsz]; exact info_rec
  have HD := Lib.hid (And.intro hRL (And.intro hRA hDA))
  have HOF := Lib.hid hof
  have HH := Lib.hid h
  clear hDA hof hp hRL hRA h
  unfold MadeR
  go_enter Tryd.func18, Tryd.ntmps18
  go_upto_region 1 with fail
  show Code.wp _ _ _ _ (w.alloc (.cells recZ.toArray 26))
  obtain ⟨W0, hW0⟩ : ∃ W0, w.alloc (.cells recZ.toArray 26) = W0 := ⟨_, rfl⟩
  rw [hW0] at HOF hb0 hs0 ⊢
  simp only [hW0] at hmk
  go_upto_region 4 with (first
    | (go_at_call 31; refine (hFS _).mono ?_; rintro e w' ⟨rfl, hw'⟩; rw [hw'])
    | (go_at_call 29; refine (HOF.out).mono ?_; rintro e w2 ⟨rfl, hb2⟩)
    | (refine lz.wp_build rfl _ _ rfl (.agg RA) (by simp only [List.map_toArray, List.map_nil, List.map_cons]; exact hbr _) ?_)
    | (refine wpList_store_mid rfl 26 (.tmp 6) (.tmp 17) rfl w2.heap.size 0 RA rfl rfl (hth2 w2) hinf hone2 ?_)
    | fail)
  have hM := hmk w2 (hb2.mono (by simp; omega))
  show Code.wp _ _ _ _ ((w2.alloc (.cells recZ.toArray 26)).setCells w2.heap.size 0 RA.toList)
  rw [hRAL]
  obtain ⟨W4, hW4⟩ : ∃ W4, (w2.alloc (.cells recZ.toArray 26)).setCells w2.heap.size 0 RL = W4 := ⟨_, rfl⟩
  rw [hW4] at hM ⊢
  clear hW4 hmk hth2
  obtain ⟨g2, hg2⟩ : ∃ g2, w2.heap.size = g2 := ⟨_, rfl⟩
  rw [hg2] at hM ⊢
  clear hg2 hb2 HOF hbr
  have hth : W4.there w.heap.size 0 RA.size := by rw [hsz]; exact hM.th
  have hinfL : (Tryd.prog.info? 26).map (·.size) = some RL.length := by rw [hR35]; exact info_rec
  go_wp2_with (first
    | (refine wpList_load_mid rfl 26 (.tmp 6) rfl g2 0 rfl RL _ hM.range Tryd.underlying26 rfl hinfL ?_; rw [HD.out.2.1])
    | (refine wpList_store_mid rfl 26 (.tmp 4) (.tmp 19) rfl w.heap.size 0 RA rfl rfl hth hinf hone2 ?_; rw [hRAL])
    | fail)
  try simp only [Exit.inBlock, Exit.then]
  have hr9 := World.rangeAt_setCells_same W4 w.heap.size 0 RL (by rw [hR35]; exact hM.th)
  refine bodyPost_ret (lz.results_ct rfl _ ⟨w.heap.size, 0, none⟩ _ rfl (run_loadVar_mid (P := Tryd.prog) _ w.heap.size 0 26 RL _ hr9 Tryd.underlying26 rfl hinfL)) rfl ?_
  exact ⟨none, 0, 0, by rw [HD.out.1]; rfl, Ow.nil _ _ _, (dg.Keep1.sets w.heap.size RL 0 W4).below hM.below hM.below.size (Nat.le_refl _)⟩
end Go.Proofs.YtbcgnacfhpahkaaDoor.rc
