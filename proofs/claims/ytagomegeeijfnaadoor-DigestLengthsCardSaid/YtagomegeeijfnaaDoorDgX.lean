/- The document's digest of bytes, the constants reckoned anew. -/
import Derived.Test.YtagomegeeijfnaaDoorDgW
import Derived.Test.YtagomegeeijfnaaDoorDgS
namespace Go.Proofs.YtagomegeeijfnaaDoor.dg
open Go.RowKit Mem DM
set_option linter.unusedVariables false
set_option linter.unusedSimpArgs false
set_option maxRecDepth 100000 in
set_option maxHeartbeats 8000000 in
theorem refOf_any (A2 : Option Addr) (n c2 B : Nat) (l : List UInt8) (w : World) (hb : Rd w B A2 n (bv l)) (hB : B ≤ w.heap.size) (hn : n ≤ 1048576) :
    Calls Tryd.prog 8 #[.slice A2 n c2] w fun e w' => e = .returned (.agg (bv (digest l)).toArray) ∧ Below w.heap.size w w' := by
  have hz32 : z32.length = 32 := by simp [z32, bv_len]
  have hth := there_new w z32 26
  rw [hz32] at hth
  have hW0 : Below w.heap.size w (w.alloc (.cells z32.toArray 26)) := (Below.refl _ _).alloc (Nat.le_refl _) _
  have hWs : (w.alloc (.cells z32.toArray 26)).heap.size = w.heap.size + 1 := by simp
  obtain ⟨Z3, hZ3⟩ : ∃ z, z32.toArray = z := ⟨_, rfl⟩
  rw [hZ3] at hth hW0 hWs
  obtain ⟨W, hW⟩ : ∃ z, w.alloc (.cells Z3 26) = z := ⟨_, rfl⟩
  rw [hW] at hth hW0 hWs
  obtain ⟨g0, hg0⟩ : ∃ z, w.heap.size = z := ⟨_, rfl⟩
  rw [hg0] at hth hW0 hWs
  have hWlt : g0 < W.heap.size := by rw [hWs]; exact Nat.lt_succ_self _
  have hc1 : ∀ y, Calls Tryd.prog 15 #[.int .i64 8, .int .i64 2] y fun e w' => ∃ A c, e = .returned (.slice A 8 c) ∧ Ow w' y.heap.size 41 A 8 c (wvs roots) ∧ Below y.heap.size y w' := fun y => by
    have := consts_any 8 2 y (by omega) (by omega)
    rw [cst8] at this
    exact this
  have hc2 : ∀ y, Calls Tryd.prog 15 #[.int .i64 64, .int .i64 3] y fun e w' => ∃ A c, e = .returned (.slice A 64 c) ∧ Ow w' y.heap.size 41 A 64 c (wvs cubes) ∧ Below y.heap.size y w' := fun y => by
    have := consts_any 64 3 y (by omega) (by omega)
    rw [cst64] at this
    exact this
  have HC := Lib.hid (And.intro hc1 hc2)
  have HB := Lib.hid (hb.below hW0 (by rw [← hg0]; exact hB))
  have H := Lib.hid (And.intro hth (And.intro hW0 hg0))
  have hdl : (bv (digest l)).length = 32 := by rw [bv_len]; exact flat_len _
  have hdo := bv_one (digest l)
  have hsum := fun (A0 A1 : Option Addr) (c0 c1 : Nat) (y : World) (h1 : Rd y y.heap.size A0 8 (wvs roots)) (h2 : Rd y y.heap.size A1 64 (wvs cubes)) (h3 : Rd y y.heap.size A2 n (bv l)) (h4 : 8 ≤ c0) => refSum_any A0 A1 A2 n c0 c1 c2 y.heap.size l y h1 h2 h3 (Nat.le_refl _) hn h4
  obtain ⟨V, hV⟩ : ∃ V, bv (digest l) = V := ⟨_, rfl⟩
  rw [hV] at hdl hdo
  simp only [hV] at hsum
  have HSUM := Lib.hid hsum
  have HVV := Lib.hid hV
  have hB2 : B ≤ g0 := by rw [← hg0]; exact hB
  clear hsum hth hW0 hWs hV hb hc1 hc2
  rw [hg0]
  go_enter Tryd.func8, Tryd.ntmps8
  go_upto_region 1 with fail
  show Code.wp _ _ _ _ (w.alloc (.cells z32.toArray 26))
  rw [hZ3, hW]
  have hWle : g0 ≤ W.heap.size := Nat.le_of_lt hWlt
  go_upto_region 2 with (first
    | (go_at_call 15; with_reducible refine (HC.out.1 _).mono ?_; rintro e w3 ⟨A3, d3, rfl, ho3, hb3⟩)
    | (go_at_call 15; with_reducible refine (HC.out.2 _).mono ?_; rintro e w4 ⟨A4, d4, rfl, ho4, hb4⟩; have hsy := HSUM.out A3 A4 d3 d4 w4 ((ho3.below hb4 (Nat.le_refl _)).rd) ho4.rd (((HB.out.below hb3 (by omega)).below hb4 (by have := hb3.size; omega)).more (by have := hb3.size; have := hb4.size; omega)) ho3.cap.1)
    | (go_at_call 14; with_reducible refine (hsy).mono ?_; rintro e w5 ⟨rfl, hb5⟩; have ht5 := there_below (there_below (there_below H.out.1 hb3 hWlt hWlt) hb4 (Nat.lt_of_lt_of_le hWlt hb3.size) (Nat.lt_of_lt_of_le hWlt hb3.size)) hb5 (Nat.lt_of_lt_of_le hWlt (Nat.le_trans hb3.size hb4.size)) (Nat.lt_of_lt_of_le hWlt (Nat.le_trans hb3.size hb4.size)))
    | (refine wpList_store_mid rfl 26 (.tmp 2) (.tmp 6) rfl g0 0 V.toArray rfl rfl (by rw [List.size_toArray, hdl]; exact ht5) (by rw [List.size_toArray, hdl]; kernel_rfl) (all_oneCell_toArray hdo) ?_)
    | fail)
  try go_wp2_with fail
  refine bodyPost_ret (v := .agg V.toArray) ?_ rfl ?_
  · exact results_row rfl _ g0 0 V _ rfl (World.rangeAt_setCells_same w5 g0 0 V (by rw [hdl]; exact ht5)) Tryd.underlying26 rfl (by rw [hdl]; kernel_rfl)
  · refine ⟨by rw [HVV.out], ?_⟩
    have e1 : Below g0 w w5 := ((H.out.2.1.trans (hb3.mono hWle)).trans (hb4.mono (Nat.le_trans hWle hb3.size))).trans (hb5.mono (Nat.le_trans hWle (Nat.le_trans hb3.size hb4.size)))
    exact (Keep1.sets g0 V 0 w5).below e1 (by rw [← H.out.2.2]; exact e1.size) (Nat.le_refl _)
end Go.Proofs.YtagomegeeijfnaaDoor.dg
