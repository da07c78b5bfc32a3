/- record: Make, of too few or too many bytes; of a known chunk. -/
import Derived.Test.YtbcgnacfhpahkaaDoorRcB
namespace Go.Proofs.YtbcgnacfhpahkaaDoor.rc
set_option maxRecDepth 20000
open Go.RowKit Mem OM LM
set_option linter.unusedVariables false
attribute [local go_sem] Oper.semAt_some
/-- what a call leaves that answers a record and an error -/
def MadeR (w : World) (K S : Int) (d x : List UInt8) (er : Int) (e : Ending) (w' : World) : Prop := ∃ A n c, e = .returned (.tuple #[.agg (recL K S d A n c).toArray, .int .i64 er]) ∧ Ow w' w.heap.size 5 A n c (bv x) ∧ Below w.heap.size w w'
theorem z32_len : z32.length = 32 := by simp [z32]
theorem recZ_len : recZ.length = 35 := recL_len z32_len
theorem build_zero (w : World) : (Instr.build 26 #[]).run Tryd.prog w = .ok (.agg recZ.toArray) w := by kernel_rfl
set_option maxHeartbeats 2000000 in
theorem make_bad (A0 : Option Addr) (n c0 : Nat) (known : Bool) (w : World) (hn : fitsS (n : Nat) = false) :
    Calls Tryd.prog 18 #[.slice A0 n c0, .bool known] w (MadeR w 0 0 z32 [] 100) := by
  have hFS := fun y => fitsSize_any (n : Nat) y
  rw [hn] at hFS
  have ht0 := dg.there_new w recZ 26
  rw [recZ_len] at ht0
  have hb0 : Below w.heap.size w (w.alloc (.cells recZ.toArray 26)) := (Below.refl _ _).alloc (Nat.le_refl _) _
  unfold MadeR
  go_enter Tryd.func18, Tryd.ntmps18
  go_upto_region 1 with fail
  show Code.wp _ _ _ _ (w.alloc (.cells recZ.toArray 26))
  obtain ⟨W0, hW0⟩ : ∃ W0, w.alloc (.cells recZ.toArray 26) = W0 := ⟨_, rfl⟩
  rw [hW0] at ht0 hb0 ⊢
  clear hW0
  have hbz := fun y => build_zero y
  have hr0 := fun (y : World) (hy : y.there w.heap.size 0 35) => World.rangeAt_setCells_same y w.heap.size 0 recZ (by rw [recZ_len]; exact hy)
  have HONE : ∀ v ∈ recZ, v.oneCell' = true := rec_one
  have hzl := recZ_len
  have HKS := fun y => dg.Keep1.sets w.heap.size recZ 0 y
  have hzz : recL 0 0 z32 none 0 0 = recZ := rfl
  obtain ⟨ZL, hZL⟩ : ∃ ZL, recZ = ZL := ⟨_, rfl⟩
  rw [hZL] at hr0 HONE hzl HKS hzz
  simp only [hZL] at hbz
  have HIZ : (Tryd.prog.info? 26).map (·.size) = some ZL.toArray.size := by rw [List.size_toArray, hzl]; exact info_rec
  have HZZ := Lib.hid hzz
  clear hZL hzz
  obtain ⟨ZA, hZA⟩ : ∃ ZA, ZL.toArray = ZA := ⟨_, rfl⟩
  rw [hZA] at HIZ
  simp only [hZA] at hbz
  have hth : W0.there w.heap.size 0 ZA.size := by rw [← hZA]; show W0.there w.heap.size 0 ZL.length; rw [hzl]; exact ht0
  have hone := all_oneCell_toArray HONE
  rw [hZA] at hone
  have HZA := Lib.hid hZA
  clear hZA
  go_wp2_with (first
    | (go_at_call 31; refine (hFS _).mono ?_; rintro e w' ⟨rfl, rfl⟩)
    | (refine lz.wp_build rfl _ _ rfl (.agg ZA) (by simp only [List.map_toArray, List.map_nil]; exact hbz _) ?_)
    | (refine wpList_store_mid rfl 26 (.tmp 4) (.tmp 11) rfl w.heap.size 0 ZA rfl rfl hth HIZ hone ?_)
    | fail)
  rw [show ZA.toList = ZL by rw [← HZA.out]]
  try simp only [Exit.inBlock, Exit.then]
  refine bodyPost_ret (lz.results_ct rfl _ ⟨w.heap.size, 0, none⟩ _ rfl (run_loadVar_mid (P := Tryd.prog) _ w.heap.size 0 26 ZL _ (hr0 _ ht0) Tryd.underlying26 rfl (by rw [hzl]; exact info_rec))) rfl ?_
  exact ⟨none, 0, 0, by rw [HZZ.out]; rfl, Ow.nil _ _ _, (HKS w').below hb0 hb0.size (Nat.le_refl _)⟩
/-- Make's world once the record is made -/
structure MkAt (w W : World) (g2 : Nat) (R : List Value) : Prop where
  range : W.rangeAt g2 0 R
  th2 : W.there g2 0 35
  th : W.there w.heap.size 0 35
  below : Below w.heap.size w W
  lt : w.heap.size < g2 ∧ g2 < W.heap.size
theorem mk_at (w w2 : World) (t : TypeId) (x : Value) (t2 : TypeId) (R : List Value) (hR : R.length = 35) (hb : Below (w.heap.size + 2) ((w.alloc (.cells recZ.toArray t)).alloc (.cells #[x] t2)) w2) :
    MkAt w ((w2.alloc (.cells recZ.toArray t)).setCells w2.heap.size 0 R) w2.heap.size R := by
  have hs : ((w.alloc (.cells recZ.toArray t)).alloc (.cells #[x] t2)).heap.size = w.heap.size + 2 := by simp
  have hs2 := hb.size
  have ht := dg.there_new w recZ t
  have ht2 := dg.there_new w2 recZ t
  rw [recZ_len] at ht ht2
  have hb0 : Below w.heap.size w ((w.alloc (.cells recZ.toArray t)).alloc (.cells #[x] t2)) := ((Below.refl _ _).alloc (Nat.le_refl _) _).alloc (by simp) _
  have hbz : Below (w.heap.size + 2) ((w.alloc (.cells recZ.toArray t)).alloc (.cells #[x] t2)) (w2.alloc (.cells recZ.toArray t)) := hb.alloc (by omega) _
  have hbs : Below (w.heap.size + 1) (w.alloc (.cells recZ.toArray t)) ((w.alloc (.cells recZ.toArray t)).alloc (.cells #[x] t2)) := (Below.refl _ _).alloc (by simp) _
  have htw : (w2.alloc (.cells recZ.toArray t)).there w.heap.size 0 35 := dg.there_below ht (hbs.trans (hbz.mono (by omega))) (by omega) (by simp)
  refine ⟨World.rangeAt_setCells_same _ _ 0 R (by rw [hR]; exact ht2), World.there_setCells ht2 _ _ _, World.there_setCells htw _ _ _, (dg.Keep1.sets w2.heap.size R 0 _).below (hb0.trans (hbz.mono (by omega))) (by simp; omega) (by omega), by omega, ?_⟩
  have := (dg.Keep1.sets w2.heap.size R 0 (w2.alloc (.cells recZ.toArray t))).size
  simp at this
  omega
end Go.Proofs.YtbcgnacfhpahkaaDoor.rc
