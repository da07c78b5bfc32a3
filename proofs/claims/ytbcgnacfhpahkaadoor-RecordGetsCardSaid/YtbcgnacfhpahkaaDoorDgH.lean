/- Contracts of digest's Sum. -/
import Derived.Test.YtbcgnacfhpahkaaDoorDgG
namespace Go.Proofs.YtbcgnacfhpahkaaDoor.dg
set_option maxRecDepth 20000
open Go.RowKit Mem DM
set_option linter.unusedVariables false
/-- a hash's cells, whole -/
def cellsOf (S : St) (L : List UInt8) (N : Nat) : List Value := .bool true :: (wvs (stL S) ++ (bv L ++ [.int .u64 (N : Int)]))
theorem cellsOf_len (S : St) (L : List UInt8) (N : Nat) (h : L.length = 64) : (cellsOf S L N).length = 74 := by simp [cellsOf, wvs_len, bv_len, h, stL]
theorem cellsOf_one (S : St) (L : List UInt8) (N : Nat) : ∀ v ∈ cellsOf S L N, v.oneCell' = true := by
  intro v hv
  unfold cellsOf at hv
  rw [List.mem_cons, List.mem_append, List.mem_append] at hv
  rcases hv with rfl | hv | hv | hv
  · rfl
  · exact wvs_one _ v hv
  · exact bv_one _ v hv
  · simp at hv; subst hv; rfl
theorem cellsOf_parts (S : St) (L : List UInt8) (N : Nat) (h : L.length = 64) : (cellsOf S L N)[0]? = some (.bool true) ∧ (∀ j v, (wvs (stL S))[j]? = some v → (cellsOf S L N)[1 + j]? = some v) ∧ (∀ j v, (bv L)[j]? = some v → (cellsOf S L N)[9 + j]? = some v) ∧ (cellsOf S L N)[73]? = some (.int .u64 (N : Int)) := by
  have h8 : (wvs (stL S)).length = 8 := by rw [wvs_len]; rfl
  have hl : (bv L).length = 64 := by rw [bv_len, h]
  unfold cellsOf
  refine ⟨rfl, fun j v hj => ?_, fun j v hj => ?_, ?_⟩
  · have := (List.getElem?_eq_some_iff.1 hj).1
    rw [Nat.add_comm 1 j, List.getElem?_cons_succ, List.getElem?_append_left this]
    exact hj
  · have := (List.getElem?_eq_some_iff.1 hj).1
    rw [show 9 + j = (8 + j) + 1 by omega, List.getElem?_cons_succ, List.getElem?_append_right (by omega), h8, show 8 + j - 8 = j by omega, List.getElem?_append_left this]
    exact hj
  · rw [show 73 = 72 + 1 by rfl, List.getElem?_cons_succ, List.getElem?_append_right (by omega), h8, List.getElem?_append_right (by omega), hl]
    rfl
theorem HashAt.range {w : World} {b : Nat} {l : List UInt8} (h : HashAt w b l) : ∃ L : List UInt8, L.length = 64 ∧ L.take (l.length % 64) = l.drop (64 * (l.length / 64)) ∧ w.rangeAt b 0 (cellsOf (stN l (l.length / 64)) L l.length) := by
  obtain ⟨L, h1, h2, h3⟩ := h.la
  refine ⟨L, h1, h3, fun j v hj => ?_⟩
  have h8 : (wvs (stL (stN l (l.length / 64)))).length = 8 := by rw [wvs_len]; rfl
  have hl : (bv L).length = 64 := by rw [bv_len, h1]
  rw [Nat.zero_add]
  unfold cellsOf at hj
  match j with
  | 0 =>
    rw [List.getElem?_cons_zero] at hj
    injection hj with hj
    subst hj
    exact h.c0
  | j + 1 =>
    rw [List.getElem?_cons_succ] at hj
    by_cases ha : j < 8
    · rw [List.getElem?_append_left (by omega)] at hj
      have := h.st j v hj
      rw [Nat.add_comm 1 j] at this
      exact this
    · rw [List.getElem?_append_right (by omega), h8] at hj
      by_cases hb : j - 8 < 64
      · rw [List.getElem?_append_left (by omega)] at hj
        have := h2 (j - 8) v hj
        rw [show 9 + (j - 8) = j + 1 by omega] at this
        exact this
      · rw [List.getElem?_append_right (by omega), hl] at hj
        have hj0 : j - 8 - 64 = 0 := by
          have := (List.getElem?_eq_some_iff.1 hj).1
          simp at this
          omega
        rw [hj0] at hj
        simp at hj
        subst hj
        have : j + 1 = 73 := by omega
        rw [this]
        exact h.sz
theorem hash_of {w : World} {b : Nat} {l L : List UInt8} (hL : L.length = 64) (hla : L.take (l.length % 64) = l.drop (64 * (l.length / 64))) (hr : w.rangeAt b 0 (cellsOf (stN l (l.length / 64)) L l.length)) (ht : w.there b 0 74) (hlt : b < w.heap.size) (hlen : l.length ≤ 1099511627776) : HashAt w b l := by
  obtain ⟨p1, p2, p3, p4⟩ := cellsOf_parts (stN l (l.length / 64)) L l.length hL
  have th : ∀ o n, o + n ≤ 74 → w.there b o n := fun o n h => by
    have := there_sub ht o n h
    rw [Nat.zero_add] at this
    exact this
  have rr' : ∀ i v, (cellsOf (stN l (l.length / 64)) L l.length)[i]? = some v → w.cell? ⟨b, i, none⟩ = some v := fun i v h => by
    have := hr i v h
    rw [Nat.zero_add] at this
    exact this
  have z73 := (ht 73 (by omega)).2
  rw [Nat.zero_add] at z73
  exact ⟨rr' 0 _ p1, fun j v hj => rr' (1 + j) v (p2 j v hj), th 1 8 (by omega), ⟨L, hL, fun j v hj => rr' (9 + j) v (p3 j v hj), hla⟩, th 9 64 (by omega), rr' 73 _ p4, z73, hlt, hlen⟩
/-- a hash's noughts -/
def zh : List Value := .bool false :: (wvs (List.replicate 8 0) ++ (bv (List.replicate 64 0) ++ [.int .u64 0]))
theorem zero_hash (w : World) : (zeroValue 112).run Tryd.prog w = .ok (.agg zh.toArray) w := by kernel_rfl
theorem cut32 (g o k : Nat) (hk : k < 32) (kl : IntKind) (z : Int) (hz : z = (k : Int)) (w : World) :
    (Instr.sliceAt 23 (.pointer (some ⟨g, o, none⟩)) (some (.int kl z)) none none).run Tryd.prog w = .ok (.slice (some ⟨g, o + k, none⟩) (32 - k) (32 - k)) w :=
  cut_arr (T := 23) (by kernel_rfl) (by kernel_rfl) (fun w => by rw [show Tryd.prog.elem 23 = 5 by kernel_rfl]; exact u8size w) g o k hk kl z hz w
/-- the first j words' bytes, and noughts -/
def outN (ws : List UInt32) (j : Nat) : List UInt8 := (ws.take j).flatMap bytes4 ++ List.replicate (32 - 4 * j) 0
theorem flat_len (ws : List UInt32) : (ws.flatMap bytes4).length = 4 * ws.length := by
  induction ws with
  | nil => rfl
  | cons x ws ih => rw [List.flatMap_cons, List.length_append, ih, List.length_cons]; show 4 + _ = _; omega
theorem outN_len (ws : List UInt32) (j : Nat) (h : ws.length = 8) (hj : j ≤ 8) : (outN ws j).length = 32 := by
  unfold outN
  rw [List.length_append, flat_len, List.length_take, List.length_replicate]
  omega
theorem outN_step (ws : List UInt32) (j : Nat) (h : ws.length = 8) (hj : j < 8) : lay (outN ws j) (bytes4 (ws.getD j 0)) (4 * j) = outN ws (j + 1) := by
  have hl : ((ws.take j).flatMap bytes4).length = 4 * j := by rw [flat_len, List.length_take]; omega
  have hb : (bytes4 (ws.getD j 0)).length = 4 := rfl
  have hjw : j < ws.length := by omega
  unfold lay outN
  rw [← List.take_append_getElem hjw, List.flatMap_append, ← hl, List.take_left, ← List.drop_drop, List.drop_left, hb, List.drop_replicate, hl, show 32 - 4 * j - 4 = 32 - 4 * (j + 1) by omega]
  have e : ws.getD j 0 = ws[j] := by simp [hjw]
  rw [e]
  simp
theorem outN_full (ws : List UInt32) (h : ws.length = 8) : outN ws 8 = ws.flatMap bytes4 := by
  unfold outN
  rw [List.take_of_length_le (by omega)]
  simp
theorem bytes4_len (x : UInt32) : (bytes4 x).length = 4 := rfl
theorem ending_len (N : Nat) : (ending N).length = (119 - N % 64) % 64 + 9 := by
  unfold ending
  rw [List.length_cons, List.length_append, List.length_append, List.length_replicate, bytes4_len, bytes4_len]
theorem digest_eq (l : List UInt8) (S : St) (h : stN (l ++ ending l.length) ((l ++ ending l.length).length / 64) = S) : digest l = (stL S).flatMap bytes4 := by
  unfold digest outS padded
  rw [h]
def z32 : List Value := bv (List.replicate 32 0)
set_option maxRecDepth 100000 in
set_option maxHeartbeats 2000000 in
theorem sum_any (b : Nat) (l : List UInt8) (w : World) (hH : HashAt w b l) (hT : Tab w) (hlen : l.length ≤ 549755813888) :
    Calls Tryd.prog 55 #[.pointer (some ⟨b, 0, none⟩)] w fun e w' => e = .returned (.agg (bv (digest l)).toArray) ∧ Below w.heap.size w w' := by
  obtain ⟨W, hW⟩ : ∃ W, W = (w.alloc (.cells z32.toArray 23)).alloc (.cells z32.toArray 23) := ⟨_, rfl⟩
  obtain ⟨g, hg⟩ : ∃ g, g = w.heap.size := ⟨_, rfl⟩
  have hWB : Below w.heap.size w W := by rw [hW]; exact ((Below.refl _ _).alloc (Nat.le_refl _) _).alloc (by simp) _
  have hWs : W.heap.size = g + 2 := by rw [hW, hg]; simp
  have hz32 : z32.length = 32 := by simp [z32, bv_len]
  have hb1 : W.rangeAt (g + 1) 0 z32 ∧ W.there (g + 1) 0 32 := by
    have h1 := range_new (w.alloc (.cells z32.toArray 23)) z32 23
    have h2 := there_new (w.alloc (.cells z32.toArray 23)) z32 23
    have e : (w.alloc (.cells z32.toArray 23)).heap.size = g + 1 := by rw [hg]; simp
    rw [← hW, e] at h1 h2
    rw [hz32] at h2
    exact ⟨h1, h2⟩
  have hb0 : W.there g 0 32 := by
    have h2 := there_new w z32 23
    rw [hz32, ← hg] at h2
    rw [hW]
    exact there_below h2 ((Below.refl _ _).alloc (Nat.le_refl _) _) (by simp; omega) (by simp; omega)
  have hHW := hH.below hWB
  obtain ⟨L, hL, hLa, hLr⟩ := hHW.range
  have hcl := cellsOf_len (stN l (l.length / 64)) L l.length hL
  have hco := cellsOf_one (stN l (l.length / 64)) L l.length
  obtain ⟨CS, hCS⟩ : ∃ z, cellsOf (stN l (l.length / 64)) L l.length = z := ⟨_, rfl⟩
  rw [hCS] at hLr hcl hco
  have hc0 := hHW.c0
  have HW := Lib.hid hW
  have HG := Lib.hid hg
  have HCS := Lib.hid hCS
  have HTW := Lib.hid (hT.below hWB)
  have HLA := Lib.hid hLa
  have HB1 := Lib.hid hb1
  have HB0 := Lib.hid hb0
  have hbl : b < w.heap.size := hH.lt
  clear hW hg hCS hT hLa hb1 hb0 hHW hH
  go_enter Tryd.func55, Tryd.ntmps55
  go_upto_region 2 with fail
  show Code.wp _ _ _ _ ((w.alloc (.cells z32.toArray 23)).alloc (.cells z32.toArray 23))
  rw [← HW.out, ← HG.out]
  have hzh := zero_hash
  have hg4 := hWs
  have hX1 := range_new W zh 112
  have hX1t := there_new W zh 112
  rw [show zh.length = 74 from rfl] at hX1t
  rw [hg4] at hX1t
  have hX1B : Below W.heap.size W (W.alloc (.cells zh.toArray 112)) := (Below.refl _ _).alloc (Nat.le_refl _) _
  have hX1s : (g + 2) < (W.alloc (.cells zh.toArray 112)).heap.size := by rw [← hg4]; simp
  obtain ⟨ZA, hZA⟩ : ∃ z, zh.toArray = z := ⟨_, rfl⟩
  rw [hZA] at hzh hX1t hX1B hX1s
  have hX2r : ((W.alloc (.cells ZA 112)).setCells (g + 2) 0 CS).rangeAt (g + 2) 0 CS := World.rangeAt_setCells_same _ (g + 2) 0 CS (by rw [hcl]; exact hX1t)
  have hX2t := World.there_setCells hX1t (g + 2) 0 CS
  have hX2k : Keep1 (W.alloc (.cells ZA 112)) ((W.alloc (.cells ZA 112)).setCells (g + 2) 0 CS) (g + 2) := Keep1.sets (g + 2) CS 0 _
  have hX2B : Below W.heap.size W ((W.alloc (.cells ZA 112)).setCells (g + 2) 0 CS) := hX2k.below hX1B (by simp) (by omega)
  have hHX := hash_of hL HLA.out (by rw [HCS.out]; exact hX2r) hX2t (Nat.lt_of_lt_of_le hX1s hX2k.size) (by omega)
  obtain ⟨X2, hX2⟩ : ∃ z, (W.alloc (.cells ZA 112)).setCells (g + 2) 0 CS = z := ⟨_, rfl⟩
  rw [hX2] at hX2B hHX
  have HX1T := Lib.hid hX1t
  have HX2 := Lib.hid hX2
  have HG4 := Lib.hid hg4
  have HHX := Lib.hid hHX
  clear hX1 hX1t hX1B hX1s hZA hX2r hX2t hX2k hX2 hHX
  go_upto_region 5 with (first
    | (refine wpList_load_mid rfl 112 (.tmp 18) rfl b 0 rfl CS _ hLr Tryd.underlying112 rfl (by rw [hcl]; kernel_rfl) ?_)
    | (refine wpList_store_mid rfl 112 (.tmp 4) (.tmp 19) rfl (g + 2) 0 CS.toArray rfl rfl (by rw [List.size_toArray, hcl]; exact HX1T.out) (by rw [List.size_toArray, hcl]; kernel_rfl) (all_oneCell_toArray hco) ?_)
    | fail)
  rw [HX2.out]
  have hX2s : g + 2 < X2.heap.size := HHX.out.lt
  have hTX := HTW.out.below hX2B
  have hend := ending_any (g + 2) l.length X2 (by omega) hX2s HHX.out.sz
  have HEND := Lib.hid hend
  have HTX := Lib.hid hTX
  clear hend hTX hLr hc0 hzh
  go_wp2_with (go_at_call 75; refine HEND.out.mono ?_; rintro e x3 ⟨ge, ne, ce, rfl, hge, hnc, rfl, hre, hb3⟩)
  have hel : (ending l.length).length ≤ 73 := by rw [ending_len]; omega
  have hpos := HTX.out.pos
  have hH3 := HHX.out.below hb3
  have hwr := write_any (g + 2) l (ending l.length) (some ⟨ge, 0, none⟩) _ ce x3 hH3 (HTX.out.below hb3) (by have := HTW.out.pos; rw [hg4] at this; omega) hre hnc (fun _ a ha => by injection ha with ha; subst ha; show ge ≠ g + 2; omega) (by omega)
  refine hwr.mono ?_
  rintro e x4 ⟨rfl, hH4, hk4⟩
  obtain ⟨SF, hSF⟩ : ∃ z, stN (l ++ ending l.length) ((l ++ ending l.length).length / 64) = z := ⟨_, rfl⟩
  have hst := hH4.st
  rw [hSF] at hst
  have hdg : digest l = (stL SF).flatMap bytes4 := digest_eq l SF hSF
  have hw8 : (stL SF).length = 8 := rfl
  obtain ⟨ws, hws⟩ : ∃ z, stL SF = z := ⟨_, rfl⟩
  rw [hws] at hst hdg hw8
  have hwvl : (wvs ws).length = 8 := by rw [wvs_len, hw8]
  have hix : ∀ (j : Nat), j < 8 → ∀ w : World, (Instr.index 108 (.agg (wvs ws).toArray) (.int .i64 (j : Int))).run Tryd.prog w = .ok (wv (ws.getD j 0)) w := fun j hj w => index_arr (N := 8) Tryd.underlying108 (wvs ws) j _ (wvs_at ws j (by omega)) hj w
  obtain ⟨WV, hWV⟩ : ∃ z, wvs ws = z := ⟨_, rfl⟩
  rw [hWV] at hst hwvl hix
  have hb34 : Below W.heap.size W x4 := by
    have e2 : Below W.heap.size W x3 := hX2B.trans (hb3.mono (by rw [hWs]; omega))
    exact hk4.below e2 (by have := e2.size; exact this) (by rw [hWs]; omega)
  have hlw : g + 1 < W.heap.size := by rw [hWs]; omega
  have hr1 := range_below HB1.out.1 hb34 hlw
  have ht1 := there_below HB1.out.2 hb34 hlw hlw
  have hr1' : x4.rangeAt (g + 1) 0 (bv (outN ws 0)) := by
    have e : bv (outN ws 0) = z32 := by unfold outN z32; simp
    rw [e]
    exact hr1
  have HIX := Lib.hid hix
  have HDG := Lib.hid (⟨hdg, hw8⟩ : digest l = ws.flatMap bytes4 ∧ ws.length = 8)
  have HB34 := Lib.hid hb34
  have HR1 := Lib.hid hr1'
  have HT1 := Lib.hid ht1
  clear hH3 hwr hH4 hSF hdg hw8 hws hWV hix hb34 hr1 ht1 hr1' hre hk4
  go_wp2_with (refine wpList_load_mid rfl 108 _ rfl (g + 2) 1 rfl WV _ hst Tryd.underlying108 rfl (by rw [hwvl]; kernel_rfl) ?_)
  go_loopw [5, 6, 24] (fun _ _ i wr => ∃ j : Nat, i = .int .i64 j ∧ j ≤ 8 ∧ Keep1 x4 wr (g + 1) ∧ wr.rangeAt (g + 1) 0 (bv (outN ws j)) ∧ wr.there (g + 1) 0 32) (fun _ _ i _ => 8 - (intOf i).toNat)
  case atStart => exact ⟨0, rfl, by omega, Keep1.refl _ _, HR1.out, HT1.out⟩
  case round =>
    obtain ⟨j, rfl, hj, hk, hr, ht⟩ := hrel
    by_cases hlt : j < 8
    · have hix := HIX.out j hlt
      have hol := outN_len ws j HDG.out.2 hj
      have hlay := range_lay (ys := bytes4 (ws.getD j 0)) (k := 4 * j) hr (by rw [hol]; exact ht) (by rw [hol, bytes4_len]; omega)
      rw [outN_step ws j HDG.out.2 hlt, Nat.zero_add] at hlay
      have hht := World.there_setCells ht (g + 1) (4 * j) (bv (bytes4 (ws.getD j 0)))
      have hkk := Keep1.sets (g + 1) (bv (bytes4 (ws.getD j 0))) (4 * j) wr
      have hput := put_any (g + 1) (4 * j) (32 - 4 * j) (32 - 4 * j) (ws.getD j 0) wr (by have := there_sub ht (4 * j) 4 (by omega); rw [Nat.zero_add] at this; exact this) (by omega)
      have hsl := cut32 (g + 1) 0 (4 * j) (by omega) .i64 ((j : Int) * 4) (by omega)
      rw [Nat.zero_add] at hsl
      obtain ⟨q, hq⟩ : ∃ q, 32 - 4 * j = q := ⟨_, rfl⟩
      rw [hq] at hsl hput
      unfold wv at hix hput
      obtain ⟨X, hX⟩ : ∃ z, (ws.getD j 0).toNat = z := ⟨_, rfl⟩
      rw [hX] at hix hput
      obtain ⟨wn, hwn⟩ : ∃ z, wr.setCells (g + 1) (4 * j) (bv (bytes4 (ws.getD j 0))) = z := ⟨_, rfl⟩
      rw [hwn] at hlay hht hkk hput
      have HPUT := Lib.hid hput
      have HL := Lib.hid hlay
      have HHT := Lib.hid hht
      have HKK := Lib.hid (hk.trans hkk)
      have kj : (j : Int) < 8 := by omega
      clear hput hlay hht hkk hX hwn hol hr ht hk hq
      go_wp2_with (go_at_call 76; refine HPUT.out.mono ?_; rintro e w' ⟨rfl, rfl⟩)
      exact ⟨⟨j + 1, by go_num, by omega, HKK.out, HL.out, HHT.out⟩, by simp [intOf]; omega⟩
    · obtain rfl : j = 8 := by omega
      rw [outN_full ws HDG.out.2, ← HDG.out.1] at hr
      have hdl : (bv (digest l)).length = 32 := by rw [bv_len, HDG.out.1, flat_len, HDG.out.2]
      have hdo := bv_one (digest l)
      obtain ⟨V, hV⟩ : ∃ V, bv (digest l) = V := ⟨_, rfl⟩
      rw [hV] at hr hdl hdo
      have hb4 := HB34.out
      have hbr : Below (g + 1) W wr := by
        refine hk.below (hb4.mono (by rw [hWs]; omega)) (by have := hb4.size; rw [hWs] at this; omega) (Nat.le_refl _)
      have ht0 : wr.there g 0 32 := there_below HB0.out hbr (by omega) (by rw [hWs]; omega)
      have HV := Lib.hid hV
      have HBR := Lib.hid hbr
      clear hV hk ht hb4 hbr
      go_wp2_with (first
        | (refine wpList_load_mid rfl 23 (.tmp 3) rfl (g + 1) 0 rfl V _ hr Tryd.underlying23 rfl (by rw [hdl]; kernel_rfl) ?_)
        | (refine wpList_store_mid rfl 23 (.tmp 2) (.tmp 34) rfl g 0 V.toArray rfl rfl (by rw [List.size_toArray, hdl]; exact ht0) (by rw [List.size_toArray, hdl]; kernel_rfl) (all_oneCell_toArray hdo) ?_)
        | fail)
      refine bodyPost_ret (v := .agg V.toArray) ?_ rfl ?_
      · exact results_row rfl _ g 0 V _ rfl (World.rangeAt_setCells_same wr g 0 V (by rw [hdl]; exact ht0)) Tryd.underlying23 rfl (by rw [hdl]; kernel_rfl)
      · refine ⟨by rw [HV.out], ?_⟩
        have e1 : Below w.heap.size w wr := hWB.trans (HBR.out.mono (by rw [HG.out]; omega))
        exact (Keep1.sets g V 0 wr).below e1 e1.size (by rw [HG.out]; exact Nat.le_refl _)
end Go.Proofs.YtbcgnacfhpahkaaDoor.dg
