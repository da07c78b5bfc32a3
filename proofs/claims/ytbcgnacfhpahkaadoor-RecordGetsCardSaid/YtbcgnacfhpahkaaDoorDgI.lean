/- Parts of bytes; a hash that no call made; contract of digest's Of; the examples. -/
import Derived.Test.YtbcgnacfhpahkaaDoorDgH
namespace Go.Proofs.YtbcgnacfhpahkaaDoor.dg
set_option maxRecDepth 20000
open Go.RowKit Mem DM
set_option linter.unusedVariables false
/-- A slice of slices of bytes. -/
structure Parts (w : World) (B : Nat) (A : Option Addr) (n : Nat) (ls : List (List UInt8)) : Prop where
  len : ls.length = n
  rd : ∃ vs, Rd w B A n vs ∧ ∀ i (h : i < ls.length), ∃ Ai ci, vs[i]? = some (.slice Ai (ls[i]).length ci) ∧ (ls[i]).length ≤ ci ∧ Rd w B Ai (ls[i]).length (bv ls[i])
theorem Parts.below {w w' : World} {B n : Nat} {A : Option Addr} {ls : List (List UInt8)} (h : Parts w B A n ls) {B' : Nat} (hb : Below B' w w') (hB : B ≤ B') : Parts w' B A n ls := by
  obtain ⟨vs, h1, h2⟩ := h.rd
  exact ⟨h.len, vs, h1.below hb hB, fun i hi => by
    obtain ⟨Ai, ci, e, hc, hr⟩ := h2 i hi
    exact ⟨Ai, ci, e, hc, hr.below hb hB⟩⟩
theorem Parts.more {w : World} {B B' n : Nat} {A : Option Addr} {ls : List (List UInt8)} (h : Parts w B A n ls) (hB : B ≤ B') : Parts w B' A n ls := by
  obtain ⟨vs, h1, h2⟩ := h.rd
  exact ⟨h.len, vs, h1.more hB, fun i hi => by
    obtain ⟨Ai, ci, e, hc, hr⟩ := h2 i hi
    exact ⟨Ai, ci, e, hc, hr.more hB⟩⟩
theorem Parts.drewN {w : World} {B n : Nat} {A : Option Addr} {ls : List (List UInt8)} (h : Parts w B A n ls) (q : Nat) : Parts (w.drewN q) B A n ls := by
  obtain ⟨vs, h1, h2⟩ := h.rd
  exact ⟨h.len, vs, h1.drewN q, fun i hi => by
    obtain ⟨Ai, ci, e, hc, hr⟩ := h2 i hi
    exact ⟨Ai, ci, e, hc, hr.drewN q⟩⟩
/-- one part, as a call with one argument lays it -/
theorem Parts.one {w : World} {B : Nat} {A : Option Addr} {n c : Nat} {l : List UInt8} (hr : Rd w B A n (bv l)) (hc : n ≤ c) (hB : B ≤ w.heap.size) (t : TypeId) :
    Parts (w.alloc (.cells #[.slice A n c] t)) (w.heap.size + 1) (some ⟨w.heap.size, 0, none⟩) 1 [l] := by
  have hn : n = l.length := by rw [← hr.len, bv_len]
  subst hn
  refine ⟨rfl, [.slice A l.length c], Rd.one _ _ _, fun i hi => ?_⟩
  obtain rfl : i = 0 := by simpa using hi
  exact ⟨A, c, rfl, hc, (hr.below ((Below.refl B w).alloc hB _) (Nat.le_refl _)).more (Nat.le_trans hB (by omega))⟩
theorem Parts.at_ {w : World} {B n : Nat} {A : Option Addr} {ls : List (List UInt8)} (h : Parts w B A n ls) {k : Nat} (hk : k < n) :
    ∃ b off Ai ni ci l, A = some ⟨b, off, none⟩ ∧ b < B ∧ w.cell? ⟨b, off + k, none⟩ = some (.slice Ai ni ci) ∧ ni ≤ ci ∧ Rd w B Ai ni (bv l) ∧ (∃ h : k < ls.length, ls[k] = l) ∧ ni = l.length := by
  obtain ⟨vs, h1, h2⟩ := h.rd
  have hl := h.len
  obtain ⟨Ai, ci, e, hc, hr⟩ := h2 k (by omega)
  obtain ⟨b, off, rfl, hB, hcell⟩ := h1.at_ hk
  exact ⟨b, off, Ai, _, ci, _, rfl, hB, hcell.trans e, hc, hr, ⟨by omega, rfl⟩, rfl⟩

theorem rd_alloc (w : World) (E : TypeId) (cs : List Value) (fr : Nat × Nat) : Rd (w.alloc (.cells cs.toArray E fr)) (w.heap.size + 1) (some ⟨w.heap.size, 0, none⟩) cs.length cs := by
  refine ⟨rfl, fun _ => ⟨_, 0, rfl, by omega, fun i hi => ?_⟩⟩
  have h : (w.alloc (.cells cs.toArray E fr)).heap[w.heap.size]? = some (.cells cs.toArray E fr) := by
    show (w.heap.push _)[w.heap.size]? = _
    simp
  unfold World.cell?
  rw [h]
  simp
theorem Parts.two {w : World} {B : Nat} {A1 A2 : Option Addr} {n c m d : Nat} {l r : List UInt8} (h1 : Rd w B A1 n (bv l)) (hc : n ≤ c) (h2 : Rd w B A2 m (bv r)) (hd : m ≤ d) (hB : B ≤ w.heap.size) (t : TypeId) :
    Parts (w.alloc (.cells #[.slice A1 n c, .slice A2 m d] t)) (w.heap.size + 1) (some ⟨w.heap.size, 0, none⟩) 2 [l, r] := by
  have hn : n = l.length := by rw [← h1.len, bv_len]
  have hm : m = r.length := by rw [← h2.len, bv_len]
  subst hn hm
  refine ⟨rfl, [.slice A1 l.length c, .slice A2 r.length d], rd_alloc w t [.slice A1 l.length c, .slice A2 r.length d] (0, 0), fun i hi => ?_⟩
  have hb : Below B w (w.alloc (.cells #[.slice A1 l.length c, .slice A2 r.length d] t)) := (Below.refl B w).alloc hB _
  match i, hi with
  | 0, _ => exact ⟨A1, c, rfl, hc, (h1.below hb (Nat.le_refl _)).more (Nat.le_trans hB (by omega))⟩
  | 1, _ => exact ⟨A2, d, rfl, hd, (h2.below hb (Nat.le_refl _)).more (Nat.le_trans hB (by omega))⟩

theorem Parts.keep {w w' : World} {b n : Nat} {A : Option Addr} {ls : List (List UInt8)} {B : Nat} (h : Parts w B A n ls) (hk : Keep1 w w' b) (hB : B ≤ w.heap.size) (hb : B ≤ b) : Parts w' B A n ls := by
  have hbl : Below B w w' := hk.below (Below.refl B w) hB hb
  exact h.below hbl (Nat.le_refl _)
/-- a hash that no call made -/
def NoHash (w : World) (v : Value) : Prop := v = .pointer none ∨ ∃ b, v = .pointer (some ⟨b, 0, none⟩) ∧ w.cell? ⟨b, 0, none⟩ = some (.bool false)
theorem write_no (v : Value) (A : Option Addr) (n c : Nat) (w : World) (h : NoHash w v) : Calls Tryd.prog 54 #[v, .slice A n c] w fun e w' => e = .returned (.tuple #[]) ∧ w = w' := by
  rcases h with rfl | ⟨b, rfl, h⟩
  all_goals
    go_enter Tryd.func54, Tryd.ntmps54
    go_wp2_with fail
    refine bodyPost_ret (results_none rfl _ _ _) rfl ⟨rfl, rfl⟩
theorem z32_one : ∀ v ∈ z32, v.oneCell' = true := bv_one _
set_option maxRecDepth 100000 in
set_option maxHeartbeats 1000000 in
theorem sum_no (v : Value) (w : World) (h : NoHash w v) : Calls Tryd.prog 55 #[v] w fun e w' => e = .returned (.agg z32.toArray) ∧ Below w.heap.size w w' := by
  obtain ⟨W, hW⟩ : ∃ W, W = (w.alloc (.cells z32.toArray 23)).alloc (.cells z32.toArray 23) := ⟨_, rfl⟩
  obtain ⟨g, hg⟩ : ∃ g, g = w.heap.size := ⟨_, rfl⟩
  have hWB : Below w.heap.size w W := by rw [hW]; exact ((Below.refl _ _).alloc (Nat.le_refl _) _).alloc (by simp) _
  have hz32 : z32.length = 32 := by simp [z32, bv_len]
  have hb1 : W.rangeAt (g + 1) 0 z32 := by
    have h1 := range_new (w.alloc (.cells z32.toArray 23)) z32 23
    have e : (w.alloc (.cells z32.toArray 23)).heap.size = g + 1 := by rw [hg]; simp
    rw [← hW, e] at h1
    exact h1
  have hb0 : W.there g 0 32 := by
    have h2 := there_new w z32 23
    rw [hz32, ← hg] at h2
    rw [hW]
    exact there_below h2 ((Below.refl _ _).alloc (Nat.le_refl _) _) (by simp; omega) (by simp; omega)
  have hN : NoHash W v := by
    rcases h with rfl | ⟨b, rfl, h⟩
    · exact Or.inl rfl
    · exact Or.inr ⟨b, rfl, (hWB.cell (p := ⟨b, 0, none⟩) (cell_lt h)).trans h⟩
  have HW := Lib.hid hW
  have HG := Lib.hid hg
  have hone := z32_one
  clear hW hg h
  obtain ⟨Z, hZ⟩ : ∃ z, z32 = z := ⟨_, rfl⟩
  have HZ := Lib.hid hZ
  rw [hZ] at hz32 hb1 hone
  clear hZ
  rcases hN with rfl | ⟨b, rfl, hc⟩
  all_goals
    go_enter Tryd.func55, Tryd.ntmps55
    go_upto_region 2 with fail
    show Code.wp _ _ _ _ ((w.alloc (.cells z32.toArray 23)).alloc (.cells z32.toArray 23))
    rw [← HW.out, ← HG.out]
    go_wp2_with (first
      | (refine wpList_load_mid rfl 23 (.tmp 3) rfl (g + 1) 0 rfl Z _ hb1 Tryd.underlying23 rfl (by rw [hz32]; kernel_rfl) ?_)
      | (refine wpList_store_mid rfl 23 (.tmp 2) (.tmp 16) rfl g 0 Z.toArray rfl rfl (by rw [List.size_toArray, hz32]; exact hb0) (by rw [List.size_toArray, hz32]; kernel_rfl) (all_oneCell_toArray hone) ?_)
      | fail)
    refine bodyPost_ret (v := .agg Z.toArray) ?_ rfl ?_
    · exact results_row rfl _ g 0 Z _ rfl (World.rangeAt_setCells_same W g 0 Z (by rw [hz32]; exact hb0)) Tryd.underlying23 rfl (by rw [hz32]; kernel_rfl)
    · refine ⟨by rw [HZ.out], ?_⟩
      exact (Keep1.sets g Z 0 W).below hWB hWB.size (by rw [HG.out]; exact Nat.le_refl _)
/-- how many bytes parts have -/
def tot (ls : List (List UInt8)) : Nat := (ls.map List.length).sum
theorem tot_take (ls : List (List UInt8)) (k : Nat) (h : k < ls.length) : tot (ls.take (k + 1)) = tot (ls.take k) + (ls[k]).length := by
  unfold tot
  rw [← List.take_append_getElem h, List.map_append, List.sum_append]
  simp
theorem tot_flat (ls : List (List UInt8)) : tot ls = ls.flatten.length := by rw [List.length_flatten]; rfl
theorem tot_le (ls : List (List UInt8)) (k : Nat) : tot (ls.take k) ≤ tot ls := by
  have e : ls = ls.take k ++ ls.drop k := (List.take_append_drop k ls).symm
  have : tot ls = tot (ls.take k) + tot (ls.drop k) := by
    unfold tot
    rw [← List.sum_append, ← List.map_append, List.take_append_drop]
  omega
set_option maxRecDepth 100000 in
set_option maxHeartbeats 2000000 in
theorem of_any (A : Option Addr) (n c B : Nat) (ls : List (List UInt8)) (w : World) (hT : Tab w) (hp : Parts w B A n ls) (hB : B ≤ w.heap.size) (hn : n ≤ 1099511627776) (ht : tot ls ≤ 549755813888) :
    Calls Tryd.prog 29 #[.slice A n c] w fun e w' => e = .returned (.agg (bv (digest ls.flatten)).toArray) ∧ Below w.heap.size w w' := by
  obtain ⟨W, hW⟩ : ∃ W, W = w.alloc (.cells z32.toArray 23) := ⟨_, rfl⟩
  obtain ⟨g, hg⟩ : ∃ g, g = w.heap.size := ⟨_, rfl⟩
  have hWB : Below w.heap.size w W := by rw [hW]; exact (Below.refl _ _).alloc (Nat.le_refl _) _
  have hWs : W.heap.size = g + 1 := by rw [hW, hg]; simp
  have hz32 : z32.length = 32 := by simp [z32, bv_len]
  have hb0 : W.there g 0 32 := by
    have h2 := there_new w z32 23
    rw [hz32, ← hg, ← hW] at h2
    exact h2
  have hTW := hT.below hWB
  have hpW := hp.below hWB hB
  have hll : ls.length = n := hp.len
  have HNEW := Lib.hid (new_any W hTW)
  have HW := Lib.hid hW
  have HG := Lib.hid hg
  have HB0 := Lib.hid hb0
  have HTW := Lib.hid hTW
  have HPW := Lib.hid hpW
  have HLL := Lib.hid hll
  have hpos := hTW.pos
  clear hW hb0 hTW hpW hp hT hll
  go_enter Tryd.func29, Tryd.ntmps29
  go_upto_region 1 with fail
  show Code.wp _ _ _ _ (w.alloc (.cells z32.toArray 23))
  rw [← HW.out, ← HG.out]
  clear hg
  go_wp2_with (go_at_call 53; refine HNEW.out.mono ?_; rintro e w1 ⟨b, rfl, hlb, hH, hb1⟩)
  have HH := Lib.hid hH
  have hz1 := hb1.size
  clear hH
  go_loopw [5, 9] (fun _ i wr => ∃ k : Nat, i = .int .i64 k ∧ k ≤ n ∧ HashAt wr b (ls.take k).flatten ∧ Keep1 w1 wr b) (fun _ i _ => n - (intOf i).toNat)
  case atStart => exact ⟨0, rfl, by omega, HH.out, Keep1.refl _ _⟩
  case round =>
    obtain ⟨k, rfl, hk, hH, hkp⟩ := hrel
    by_cases hlt : k < n
    · have hpr : Parts wr B A n ls := by
        have h1 := HPW.out.below hb1 (by have := hWB.size; omega)
        exact h1.keep hkp (by have := hWB.size; omega) (by have := hWB.size; omega)
      obtain ⟨pb, po, Ai, ni, ci, l, rfl, hpb, hcell, hci, hrl, ⟨hkl, hle⟩, hni⟩ := hpr.at_ hlt
      have htk := tot_take ls k hkl
      have htl := tot_le ls (k + 1)
      have htf := tot_flat (ls.take k)
      rw [hle] at htk
      have hws : B ≤ wr.heap.size := by have := hWB.size; have := hkp.size; omega
      have hTr : Tab wr := by
        have t1 := HTW.out.below hb1
        exact ⟨range_keep t1.1 hkp t1.pos.1 (by omega), range_keep t1.2 hkp t1.pos.2 (by omega)⟩
      have hwr := write_any b (ls.take k).flatten l Ai ni ci wr hH hTr (by omega) (hrl.more hws) hci (fun hp a ha => by
        obtain ⟨b2, o2, e2, hlt2, _⟩ := hrl.addr hp
        rw [e2] at ha
        injection ha with ha
        subst ha
        show b2 ≠ b
        have := hWB.size
        omega) (by omega)
      have hfl : (ls.take (k + 1)).flatten = (ls.take k).flatten ++ l := by rw [← List.take_append_getElem hkl, List.flatten_append, hle]; simp
      rw [← hfl] at hwr
      have HWR := Lib.hid hwr
      have HK := Lib.hid hkp
      have kn : (k : Int) < (n : Int) := by omega
      clear hwr hkp hH hrl hle hni
      go_wp2_with (go_at_call 54; refine HWR.out.mono ?_; rintro e w2 ⟨rfl, hH2, hk2⟩)
      exact ⟨⟨k + 1, by go_num, by omega, hH2, HK.out.trans hk2⟩, by simp [intOf]; omega⟩
    · obtain rfl : k = n := by omega
      rw [List.take_of_length_le (by rw [HLL.out]; exact Nat.le_refl _)] at hH
      have hTr : Tab wr := by
        have t1 := HTW.out.below hb1
        exact ⟨range_keep t1.1 hkp t1.pos.1 (by omega), range_keep t1.2 hkp t1.pos.2 (by omega)⟩
      have hsum := sum_any b ls.flatten wr hH hTr (by rw [← tot_flat]; exact ht)
      have hbw : Below (g + 1) W wr := hkp.below (hb1.mono (by omega)) (by omega) (by omega)
      have HSUM := Lib.hid hsum
      have HBW := Lib.hid hbw
      have hdl : (bv (digest ls.flatten)).length = 32 := by rw [bv_len]; exact flat_len _
      have hdo := bv_one (digest ls.flatten)
      obtain ⟨V, hV⟩ : ∃ V, bv (digest ls.flatten) = V := ⟨_, rfl⟩
      rw [hV] at hdl hdo HSUM
      have HV := Lib.hid hV
      have hgs : g < W.heap.size := by omega
      clear hV hsum hbw hH hkp hTr
      go_upto_region 7 with fail
      go_wp2_with (first
        | (go_at_call 55; refine HSUM.out.mono ?_; rintro e w3 ⟨rfl, hb3⟩; have ht0 : w3.there g 0 32 := there_below HB0.out (HBW.out.trans (hb3.mono (by have := HBW.out.size; omega))) (by omega) hgs)
        | (refine wpList_store_mid rfl 23 (.tmp 2) (.tmp 18) rfl g 0 V.toArray rfl rfl (by rw [List.size_toArray, hdl]; exact ht0) (by rw [List.size_toArray, hdl]; kernel_rfl) (all_oneCell_toArray hdo) ?_)
        | fail)
      refine bodyPost_ret (v := .agg V.toArray) ?_ rfl ?_
      · exact results_row rfl _ g 0 V _ rfl (World.rangeAt_setCells_same w3 g 0 V (by rw [hdl]; exact ht0)) Tryd.underlying23 rfl (by rw [hdl]; kernel_rfl)
      · refine ⟨by rw [HV.out], ?_⟩
        have e1 : Below (g + 1) W w3 := HBW.out.trans (hb3.mono (by have := HBW.out.size; omega))
        have e2 : Below w.heap.size w w3 := hWB.trans (e1.mono (by rw [← HG.out]; omega))
        exact (Keep1.sets g V 0 w3).below e2 e2.size (by rw [HG.out]; exact Nat.le_refl _)
end Go.Proofs.YtbcgnacfhpahkaaDoor.dg
