/- The document's digest of bytes, the constants written out. -/
import Derived.Test.YtagomegeeijfnaaDoorDgV
import Derived.Test.YtagomegeeijfnaaDoorDgI
namespace Go.Proofs.YtagomegeeijfnaaDoor.dg
open Go.RowKit Mem DM
set_option linter.unusedVariables false
set_option linter.unusedSimpArgs false
theorem wp_buildSliceD {P : Program} {ops : Array Oper} {rest : List Oper} {o : Oper} {a : Act} {w : World} {Q : Exit → Act → World → Prop} (hgd : o.guard = none) (t : TypeId) (len : Nat) (parts : Array (Nat × Operand)) (ho : o.op = .buildSlice t len parts) (vs : Array (Nat × Value)) (hvs : (parts.map fun (i, x) => (i, a.eval x)) = vs) (v : Value) (w' : World)
    (hrun : (Instr.buildSlice t len vs).run P w = .ok v w') (h : wpList P ops Q rest (a.put o.dst v) w') : wpList P ops Q (o :: rest) a w :=
  wpList_plain hgd fun K hK => by
    unfold Oper.wp execOp
    simp only [ho, Sem.run_bind, hvs, Result.andThen_ok, hrun]
    exact hK _ _ h
def idx (l : List UInt32) : List (Nat × Value) := (List.range l.length).map fun i => (i, wv (l.getD i 0))
theorem build_cubes (w : World) : (Instr.buildSlice 39 64 (idx cubes).toArray).run Tryd.prog w = .ok (.slice (some ⟨w.heap.size, 0, none⟩) 64 64) (w.alloc (.cells (wvs cubes).toArray 41)) := by kernel_rfl
theorem build_roots (w : World) : (Instr.buildSlice 39 8 (idx roots).toArray).run Tryd.prog w = .ok (.slice (some ⟨w.heap.size, 0, none⟩) 8 8) (w.alloc (.cells (wvs roots).toArray 41)) := by kernel_rfl
set_option maxRecDepth 100000 in
set_option maxHeartbeats 8000000 in
theorem refQuick_any (A2 : Option Addr) (n c2 B : Nat) (l : List UInt8) (w : World) (hb : Rd w B A2 n (bv l)) (hB : B ≤ w.heap.size) (hn : n ≤ 1048576) :
    Calls Tryd.prog 9 #[.slice A2 n c2] w fun e w' => e = .returned (.agg (bv (digest l)).toArray) ∧ Below w.heap.size w w' := by
  have hz32 : z32.length = 32 := by simp [z32, bv_len]
  have hth := there_new w z32 26
  rw [hz32] at hth
  have hW0 : Below w.heap.size w (w.alloc (.cells z32.toArray 26)) := (Below.refl _ _).alloc (Nat.le_refl _) _
  have hWs : (w.alloc (.cells z32.toArray 26)).heap.size = w.heap.size + 1 := by simp
  obtain ⟨Z3, hZ3⟩ : ∃ z, z32.toArray = z := ⟨_, rfl⟩
  rw [hZ3] at hth hW0 hWs
  obtain ⟨W, hW⟩ : ∃ z, w.alloc (.cells Z3 26) = z := ⟨_, rfl⟩
  rw [hW] at hth hW0 hWs
  obtain ⟨g0, hg0⟩ : ∃ z, w.heap.size = z := ⟨_, rfl⟩
  rw [hg0] at hth hW0 hWs
  have hWlt : g0 < W.heap.size := by rw [hWs]; exact Nat.lt_succ_self _
  have hbc := build_cubes
  have hbr := build_roots
  have hrc := fun y => rd_alloc y 41 (wvs cubes) (0, 0)
  have hrr := fun y => rd_alloc y 41 (wvs roots) (0, 0)
  have hcl : (wvs cubes).length = 64 := by rw [wvs_len]; rfl
  have hrl : (wvs roots).length = 8 := by rw [wvs_len]; rfl
  simp only [hcl] at hrc
  simp only [hrl] at hrr
  obtain ⟨CV, hCV⟩ : ∃ z, wvs cubes = z := ⟨_, rfl⟩
  obtain ⟨RV, hRV⟩ : ∃ z, wvs roots = z := ⟨_, rfl⟩
  simp only [hCV] at hbc hrc
  simp only [hRV] at hbr hrr
  obtain ⟨CA, hCA⟩ : ∃ z, CV.toArray = z := ⟨_, rfl⟩
  obtain ⟨RA, hRA⟩ : ∃ z, RV.toArray = z := ⟨_, rfl⟩
  simp only [hCA] at hbc hrc
  simp only [hRA] at hbr hrr
  have hsum : ∀ y, Below W.heap.size W y → Calls Tryd.prog 14 #[.slice (some ⟨y.heap.size + 1, 0, none⟩) 8 8, .slice (some ⟨y.heap.size, 0, none⟩) 64 64, .slice A2 n c2] ((y.alloc (.cells CA 41)).alloc (.cells RA 41)) fun e w' => e = .returned (.agg (bv (digest l)).toArray) ∧ Below ((y.alloc (.cells CA 41)).alloc (.cells RA 41)).heap.size ((y.alloc (.cells CA 41)).alloc (.cells RA 41)) w' := fun y hy => by
    have b1 : Below y.heap.size y (y.alloc (.cells CA 41)) := (Below.refl _ _).alloc (Nat.le_refl _) _
    have b2 : Below (y.heap.size + 1) (y.alloc (.cells CA 41)) ((y.alloc (.cells CA 41)).alloc (.cells RA 41)) := (Below.refl _ _).alloc (by simp) _
    have hs2 : ((y.alloc (.cells CA 41)).alloc (.cells RA 41)).heap.size = y.heap.size + 1 + 1 := by simp
    have hs1 : (y.alloc (.cells CA 41)).heap.size = y.heap.size + 1 := by simp
    have r1 : Rd (y.alloc (.cells CA 41)) (y.heap.size + 1) (some ⟨y.heap.size, 0, none⟩) 64 CV := hrc y
    have r2 : Rd ((y.alloc (.cells CA 41)).alloc (.cells RA 41)) (y.heap.size + 1 + 1) (some ⟨y.heap.size + 1, 0, none⟩) 8 RV := by
      have := hrr (y.alloc (.cells CA 41))
      rw [hs1] at this
      exact this
    have hbb := (hb.below (hW0.trans (hy.mono (Nat.le_of_lt hWlt)) : Below g0 w y) (by rw [← hg0]; exact hB))
    have hbb2 := (hbb.more (B' := y.heap.size) (Nat.le_trans hB (by rw [hg0]; exact Nat.le_trans (Nat.le_of_lt hWlt) hy.size))).below (b1.trans (b2.mono (Nat.le_succ _))) (Nat.le_refl _)
    have := refSum_any (some ⟨y.heap.size + 1, 0, none⟩) (some ⟨y.heap.size, 0, none⟩) A2 n 8 64 c2 (y.heap.size + 1 + 1) l _ (by rw [hRV]; exact r2) (by rw [hCV]; exact (r1.below b2 (Nat.le_refl _)).more (Nat.le_succ _)) (hbb2.more (by omega)) (by rw [hs2]; exact Nat.le_refl _) hn (Nat.le_refl _)
    exact this
  have HSUM := Lib.hid hsum
  have H := Lib.hid (And.intro hth (And.intro hW0 hg0))
  have hdl : (bv (digest l)).length = 32 := by rw [bv_len]; exact flat_len _
  have hdo := bv_one (digest l)
  obtain ⟨V, hV⟩ : ∃ V, bv (digest l) = V := ⟨_, rfl⟩
  rw [hV] at HSUM hdl hdo
  have HVV := Lib.hid hV
  clear hsum hth hW0 hWs hV hrc hrr hCV hRV hCA hRA hb
  rw [hg0]
  go_enter Tryd.func9, Tryd.ntmps9
  go_upto_region 1 with fail
  show Code.wp _ _ _ _ (w.alloc (.cells z32.toArray 26))
  rw [hZ3, hW]
  go_upto_region 2 with (refine wp_buildSliceD rfl 39 64 _ rfl (idx cubes).toArray (by kernel_rfl) _ _ (hbc _) ?_)
  have hsy := HSUM.out W (Below.refl _ _)
  have HSY := Lib.hid hsy
  have hWle : g0 ≤ W.heap.size := Nat.le_of_lt hWlt
  have hWB : Below W.heap.size W ((W.alloc (.cells CA 41)).alloc (.cells RA 41)) := ((Below.refl _ _).alloc (Nat.le_refl _) _).alloc (by simp) _
  have HWB := Lib.hid hWB
  clear hsy hWB
  go_upto_region 3 with (first
    | (refine wp_buildSliceD rfl 39 8 _ rfl (idx roots).toArray (by kernel_rfl) _ _ (hbr _) ?_)
    | (go_at_call 14; refine (HSY.out).mono ?_; rintro e w5 ⟨rfl, hb5⟩; have ht5 := there_below (there_below H.out.1 HWB.out hWlt hWlt) hb5 (Nat.lt_of_lt_of_le hWlt HWB.out.size) (Nat.lt_of_lt_of_le hWlt HWB.out.size))
    | (refine wpList_store_mid rfl 26 (.tmp 2) (.tmp 8) rfl g0 0 V.toArray rfl rfl (by rw [List.size_toArray, hdl]; exact ht5) (by rw [List.size_toArray, hdl]; kernel_rfl) (all_oneCell_toArray hdo) ?_)
    | fail)
  try go_wp2_with fail
  refine bodyPost_ret (v := .agg V.toArray) ?_ rfl ?_
  · exact results_row rfl _ g0 0 V _ rfl (World.rangeAt_setCells_same w5 g0 0 V (by rw [hdl]; exact ht5)) Tryd.underlying26 rfl (by rw [hdl]; kernel_rfl)
  · refine ⟨by rw [HVV.out], ?_⟩
    have e1 : Below g0 w w5 := (H.out.2.1.trans (HWB.out.mono hWle)).trans (hb5.mono (Nat.le_trans hWle HWB.out.size))
    exact (Keep1.sets g0 V 0 w5).below e1 (by rw [← H.out.2.2]; exact e1.size) (Nat.le_refl _)
end Go.Proofs.YtagomegeeijfnaaDoor.dg
