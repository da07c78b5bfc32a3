/- Contract of digest's Write. -/
import Derived.Test.YtbcgnacfhpahkaaDoorDgE
namespace Go.Proofs.YtbcgnacfhpahkaaDoor.dg
open Go.RowKit Mem DM
set_option linter.unusedVariables false
theorem write_math (l' rest L : List UInt8) (k mm : Nat) (hL : L.length = 64) (hk : k = l'.length % 64) (hm : mm ≤ rest.length) (hm2 : k + mm ≤ 64) (hla : L.take k = l'.drop (64 * (l'.length / 64))) :
    (k + mm < 64 → (l' ++ rest.take mm).length / 64 = l'.length / 64 ∧ (l' ++ rest.take mm).length % 64 = k + mm ∧ (lay L (rest.take mm) k).take (k + mm) = (l' ++ rest.take mm).drop (64 * (l'.length / 64)) ∧ stN (l' ++ rest.take mm) (l'.length / 64) = stN l' (l'.length / 64)) ∧
    (k + mm = 64 → (l' ++ rest.take mm).length / 64 = l'.length / 64 + 1 ∧ (l' ++ rest.take mm).length % 64 = 0 ∧ (l' ++ rest.take mm).drop (64 * (l'.length / 64 + 1)) = [] ∧ stN (l' ++ rest.take mm) (l'.length / 64 + 1) = mixed (stN l' (l'.length / 64)) (wordsN (lay L (rest.take mm) k) 64)) := by
  have hlen : (l' ++ rest.take mm).length = l'.length + mm := by rw [List.length_append, List.length_take]; omega
  have htl : (rest.take mm).length = mm := by rw [List.length_take]; omega
  have h64 : 64 * (l'.length / 64) ≤ l'.length := by omega
  have hdrop : (l' ++ rest.take mm).drop (64 * (l'.length / 64)) = L.take k ++ rest.take mm := by rw [List.drop_append_of_le_length h64, hla]
  have hlk : (L.take k).length = k := by rw [List.length_take]; omega
  refine ⟨fun h => ⟨by rw [hlen]; omega, by rw [hlen]; omega, ?_, stN_app _ _ _ h64⟩, fun h => ⟨by rw [hlen]; omega, by rw [hlen]; omega, ?_, ?_⟩⟩
  · rw [hdrop]
    unfold lay
    rw [List.take_append_of_le_length (by rw [List.length_append]; omega), List.take_of_length_le (by rw [List.length_append]; omega)]
  · rw [List.drop_of_length_le (by rw [hlen]; omega)]
  · rw [stN, stN_app _ _ _ h64]
    congr 2
    unfold blk64
    rw [hdrop]
    unfold lay
    rw [List.drop_of_length_le (by omega), List.append_nil, List.take_of_length_le (by rw [List.length_append]; omega)]
theorem range_out {w : World} {b o i : Nat} {cs : List Value} (h : w.rangeAt b o cs) (v : Value) (hi : i < o ∨ o + cs.length ≤ i) : (w.setCell ⟨b, i, none⟩ v).rangeAt b o cs := fun j u hj => by
  have hjl := (List.getElem?_eq_some_iff.1 hj).1
  rw [World.cell?_setCell_other w _ _ _ (fun e => by injection e with _ e2; omega)]
  exact h j u hj
/-- the world behind a piece that was laid and counted -/
def V2 (wr : World) (b k N mm : Nat) (ys : List UInt8) : World := (wr.drew.setCells b (9 + k) (bv ys)).setCell ⟨b, 73, none⟩ (.int .u64 ((N + mm : Nat) : Int))
theorem v2_facts {wr : World} {b k mm N : Nat} {l' rest L : List UInt8} (hH : HashAt wr b l') (hL : L.length = 64) (hLr : wr.rangeAt b 9 (bv L)) (hk : k = l'.length % 64) (hm : mm ≤ rest.length) (hm2 : k + mm ≤ 64) :
    (V2 wr b k N mm (rest.take mm)).rangeAt b 1 (wvs (stL (stN l' (l'.length / 64)))) ∧ (V2 wr b k N mm (rest.take mm)).there b 1 8 ∧ (V2 wr b k N mm (rest.take mm)).rangeAt b 9 (bv (lay L (rest.take mm) k)) ∧ (V2 wr b k N mm (rest.take mm)).there b 9 64 ∧
    (V2 wr b k N mm (rest.take mm)).cell? ⟨b, 0, none⟩ = some (.bool true) ∧ (V2 wr b k N mm (rest.take mm)).cell? ⟨b, 73, none⟩ = some (.int .u64 ((N + mm : Nat) : Int)) ∧ (V2 wr b k N mm (rest.take mm)).frozen? ⟨b, 73, none⟩ = false ∧ Keep1 wr (V2 wr b k N mm (rest.take mm)) b ∧
    (wr.drew.setCells b (9 + k) (bv (rest.take mm))).cell? ⟨b, 73, none⟩ = some (.int .u64 (l'.length : Nat)) ∧ (wr.drew.setCells b (9 + k) (bv (rest.take mm))).frozen? ⟨b, 73, none⟩ = false := by
  have htl : (rest.take mm).length = mm := by rw [List.length_take]; omega
  have hlb : (bv (rest.take mm)).length = mm := by rw [bv_len, htl]
  have hst8 : (wvs (stL (stN l' (l'.length / 64)))).length = 8 := by rw [wvs_len]; rfl
  have hll : (bv (lay L (rest.take mm) k)).length = 64 := by rw [bv_len, lay_len L _ k (by omega), hL]
  have r1 : wr.drew.rangeAt b 1 (wvs (stL (stN l' (l'.length / 64)))) := hH.st
  have t1 : wr.drew.there b 1 8 := hH.stt
  have t9 : wr.drew.there b 9 64 := hH.lat
  have r9 := range_lay (w := wr.drew) (ys := rest.take mm) (k := k) hLr (by rw [hL]; exact t9) (by rw [htl, hL]; omega)
  have e73 : (wr.drew.setCells b (9 + k) (bv (rest.take mm))).cell? ⟨b, 73, none⟩ = some (.int .u64 (l'.length : Nat)) := by
    rw [World.cell?_setCells_out b _ _ _ ⟨b, 73, none⟩ (fun _ _ => Or.inr (by rw [hlb]; show 9 + k + mm ≤ 73; omega))]
    exact hH.sz
  have z73 : (wr.drew.setCells b (9 + k) (bv (rest.take mm))).frozen? ⟨b, 73, none⟩ = false := by
    rw [World.frozen?_setCells]
    exact hH.szf
  have e0 : (wr.drew.setCells b (9 + k) (bv (rest.take mm))).cell? ⟨b, 0, none⟩ = some (.bool true) := by
    rw [World.cell?_setCells_out b _ _ _ ⟨b, 0, none⟩ (fun _ _ => Or.inl (by show 0 < 9 + k; omega))]
    exact hH.c0
  have hz : ∀ o n, (wr.drew.setCells b (9 + k) (bv (rest.take mm))).there b o n → (V2 wr b k N mm (rest.take mm)).there b o n := fun o n h => World.there_setCells h b 73 [.int .u64 ((N + mm : Nat) : Int)]
  refine ⟨?_, hz 1 8 (World.there_setCells t1 _ _ _), ?_, hz 9 64 (World.there_setCells t9 _ _ _), ?_, World.cell?_setCell_same _ _ _ e73, ?_, ?_, e73, z73⟩
  · exact range_out (World.rangeAt_setCells_apart r1 b (9 + k) _ (Or.inr (Or.inl (by rw [hst8]; omega)))) _ (Or.inr (by rw [hst8]; omega))
  · exact range_out r9 _ (Or.inr (by rw [hll]; omega))
  · show World.cell? (World.setCell _ _ _) _ = _
    rw [World.cell?_setCell_other _ _ _ _ (fun e => by injection e with _ e2; omega)]
    exact e0
  · show World.frozen? (World.setCell _ _ _) _ = _
    rw [World.frozen?_setCell]
    exact z73
  · exact ((Keep1.refl wr b).drew.trans (Keep1.sets b _ _ _)).trans (Keep1.set _ _ _ _)
theorem hash_part {wr : World} {b k mm N : Nat} {l' rest L : List UInt8} (hH : HashAt wr b l') (hL : L.length = 64) (hLr : wr.rangeAt b 9 (bv L)) (hk : k = l'.length % 64) (hm : mm ≤ rest.length) (hN : l'.length = N) (hla : L.take k = l'.drop (64 * (l'.length / 64)))
    (hlt : k + mm < 64) (hlen : N + mm ≤ 1099511627776) : HashAt (V2 wr b k N mm (rest.take mm)) b (l' ++ rest.take mm) := by
  obtain ⟨f1, f2, f3, f4, f5, f6, f7, f8, _, _⟩ := v2_facts (N := N) hH hL hLr hk hm (by omega)
  obtain ⟨m1, m2, m3, m4⟩ := (write_math l' rest L k mm hL hk hm (by omega) hla).1 hlt
  have hl2 : (l' ++ rest.take mm).length = N + mm := by rw [List.length_append, List.length_take]; omega
  refine ⟨f5, by rw [m1, m4]; exact f1, f2, ⟨_, by rw [lay_len L _ k (by rw [List.length_take]; omega), hL], f3, by rw [m1, m2]; exact m3⟩, f4, by rw [hl2]; exact f6, f7, Nat.lt_of_lt_of_le hH.lt f8.size, by rw [hl2]; exact hlen⟩
theorem hash_full {wr x : World} {b k mm N : Nat} {l' rest L : List UInt8} (hH : HashAt wr b l') (hL : L.length = 64) (hLr : wr.rangeAt b 9 (bv L)) (hk : k = l'.length % 64) (hm : mm ≤ rest.length) (hN : l'.length = N) (hla : L.take k = l'.drop (64 * (l'.length / 64)))
    (hlt : k + mm = 64) (hlen : N + mm ≤ 1099511627776) (hx : x.rangeAt b 1 (wvs (stL (mixed (stN l' (l'.length / 64)) (wordsN (lay L (rest.take mm) k) 64))))) (hxt : x.there b 1 8) (hkr : KeepR (V2 wr b k N mm (rest.take mm)) x b 1 8) (hs : (V2 wr b k N mm (rest.take mm)).heap.size ≤ x.heap.size) :
    HashAt x b (l' ++ rest.take mm) := by
  obtain ⟨f1, f2, f3, f4, f5, f6, f7, f8, _, _⟩ := v2_facts (N := N) hH hL hLr hk hm (by omega)
  obtain ⟨m1, m2, m3, m4⟩ := (write_math l' rest L k mm hL hk hm (by omega) hla).2 hlt
  have hl2 : (l' ++ rest.take mm).length = N + mm := by rw [List.length_append, List.length_take]; omega
  have hll : (bv (lay L (rest.take mm) k)).length = 64 := by rw [bv_len, lay_len L _ k (by rw [List.length_take]; omega), hL]
  refine ⟨(hkr.cells 0 (Or.inl (by omega))).trans f5, by rw [m1, m4]; exact hx, hxt, ⟨lay L (rest.take mm) k, by rw [lay_len L (rest.take mm) k (by rw [List.length_take]; omega), hL], fun j v hj => ?_, by rw [m1, m2, m3]; rfl⟩, fun j hj => ?_, ?_, (hkr.fz 73).trans f7, Nat.lt_of_lt_of_le hH.lt (Nat.le_trans f8.size hs), by rw [hl2]; exact hlen⟩
  · rw [hkr.cells (9 + j) (Or.inr (by omega))]
    exact f3 j v hj
  · rw [hkr.cells (9 + j) (Or.inr (by omega)), hkr.fz (9 + j)]
    exact f4 j hj
  · rw [hl2]
    exact (hkr.cells 73 (Or.inr (by omega))).trans f6
theorem rd_drop {w : World} {B n c : Nat} {A : Option Addr} {l : List UInt8} (h : Rd w B A n (bv l)) (m : Nat) (hm : m ≤ n) (hc : m < n → c ≠ m) : Rd w B (if c = m then A else A.map (fun x => x.add m)) (n - m) (bv (l.drop m)) := by
  have hl := h.len
  have := h.cut (l := m) (m := n - m) (by omega) (A' := if c = m then A else A.map (fun x => x.add m)) (fun hp => by rw [if_neg (hc (by omega))])
  rw [bv_drop]
  rw [List.take_of_length_le (by rw [List.length_drop]; omega)] at this
  exact this
theorem ne_drop {A : Option Addr} {n b : Nat} (h : 0 < n → ∀ a, A = some a → a.block ≠ b) {c : Nat} (m : Nat) (hm : 0 < n) : 0 < n - m → ∀ a, (if c = m then A else A.map (fun x => x.add m)) = some a → a.block ≠ b := fun hp a ha => by
  by_cases hc : c = m
  · rw [if_pos hc] at ha
    exact h hm a ha
  · rw [if_neg hc] at ha
    cases A with
    | none => cases ha
    | some a0 =>
      injection ha with ha
      subst ha
      show (a0.add m).block ≠ b
      rw [show (a0.add m).block = a0.block by unfold Addr.add; split <;> rfl]
      exact h hm a0 rfl
/-- the input, cut -/
def WR (b : Nat) (l p : List UInt8) (W wr : World) (v : Value) (m : Nat) : Prop := ∃ (done rest : List UInt8) (A : Option Addr) (n c : Nat), p = done ++ rest ∧ rest.length = m ∧ v = .slice A n c ∧ n ≤ c ∧ Rd W W.heap.size A n (bv rest) ∧ (0 < n → ∀ a, A = some a → a.block ≠ b) ∧ HashAt wr b (l ++ done) ∧ Keep1 W wr b
set_option maxRecDepth 100000 in
set_option maxHeartbeats 8000000 in
theorem write_any (b : Nat) (l p : List UInt8) (A : Option Addr) (n c : Nat) (W : World) (hH : HashAt W b l) (hT : Tab W) (hg : 0 < b ∧ 1 < b) (hr : Rd W W.heap.size A n (bv p)) (hc : n ≤ c) (hne : 0 < n → ∀ a, A = some a → a.block ≠ b)
    (hlen : l.length + p.length ≤ 1099511627776) :
    Calls Tryd.prog 54 #[.pointer (some ⟨b, 0, none⟩), .slice A n c] W fun e w' => e = .returned (.tuple #[]) ∧ HashAt w' b (l ++ p) ∧ Keep1 W w' b := by
  have hc0 := hH.c0
  have hstart : WR b l p W W (.slice A n c) p.length := ⟨[], p, A, n, c, rfl, rfl, rfl, hc, hr, hne, by rw [List.append_nil]; exact hH, Keep1.refl _ _⟩
  clear hH hr hne hc
  go_enter Tryd.func54, Tryd.ntmps54
  go_wp2_with fail
  go_loopw [1, 4] (fun v _ wr => ∃ m, WR b l p W wr v m) (fun v _ _ => match v with | .slice _ n _ => n | _ => 0)
  case atStart => exact ⟨_, hstart⟩
  case round =>
    clear hstart hc0
    obtain ⟨m, done, rest, A1, n1, c1, hp, hm, rfl, hc1, hr1, hne1, hH, hk⟩ := hrel
    have hn1 : rest.length = n1 := by rw [← bv_len, hr1.len]
    by_cases hpos : 0 < n1
    · obtain ⟨l', hl'⟩ : ∃ z, l ++ done = z := ⟨_, rfl⟩
      rw [hl'] at hH
      obtain ⟨L, hL, hLr, hLa⟩ := hH.la
      obtain ⟨N, hN⟩ : ∃ z, l'.length = z := ⟨_, rfl⟩
      obtain ⟨k, hkk⟩ : ∃ z, l'.length % 64 = z := ⟨_, rfl⟩
      have hk64 : k < 64 := by rw [← hkk]; exact Nat.mod_lt _ (by omega)
      obtain ⟨mm, hmm⟩ : ∃ z, Nat.min n1 (64 - k) = z := ⟨_, rfl⟩
      have hmm1 : mm ≤ n1 := by rw [← hmm]; exact Nat.min_le_left _ _
      have hmm2 : mm ≤ 64 - k := by rw [← hmm]; exact Nat.min_le_right _ _
      have hmm3 : 0 < mm := by rw [← hmm]; exact Nat.lt_min.2 ⟨hpos, by omega⟩
      have hwm := write_math l' rest L k mm hL hkk.symm (by omega) (by omega) (by rw [← hkk]; exact hLa)
      have hlay := range_lay (ys := rest.take mm) (k := k) hLr (by rw [hL]; exact hH.lat) (by rw [hL, List.length_take]; omega)
      have hsz := hH.sz
      have hszf := hH.szf
      rw [hN] at hsz
      have hmod : (N : Int) % 64 = (k : Int) := by omega
      have hmt : (N : Int).tmod 64 = (k : Int) := by rw [Int.tmod_eq_emod_of_nonneg (by omega)]; omega
      have hsl := cut64 b 9 k hk64 .u64 (k : Int) rfl
      have hr1k : Rd wr wr.heap.size A1 n1 (bv rest) := (hk.rd hr1 (Nat.le_refl _) hne1).more hk.size
      have hth : wr.there b (9 + k) mm := there_sub hH.lat k mm (by omega)
      have hplen : N + n1 ≤ 1099511627776 := by
        rw [← hN, ← hl', List.length_append]
        rw [hp, List.length_append] at hlen
        omega
      have kpos : (0 : Int) < (n1 : Int) := by omega
      have HH := Lib.hid hH
      have HK := Lib.hid hk
      have HWM := Lib.hid hwm
      have HLAY := Lib.hid hlay
      have HR1 := Lib.hid hr1
      have HNE := Lib.hid hne1
      have HTH := Lib.hid hth
      have HR1K := Lib.hid hr1k
      have HLR := Lib.hid hLr
      have HLA := Lib.hid hLa
      have HEQ := Lib.hid (⟨hl', hN, hkk, hn1, hm, hp, hL⟩ : l ++ done = l' ∧ l'.length = N ∧ l'.length % 64 = k ∧ rest.length = n1 ∧ rest.length = m ∧ p = done ++ rest ∧ L.length = 64)
      clear hH hk hwm hlay hr1 hne1 hl' hN hkk hn1 hm hp hLr hLa hth hr1k hL hlen
      go_wp2_with fail
      go_region_law (refine step_copyc rfl (.tmp 25) (.tmp 26) rfl (k := mm) HR1K.out.drew rfl rfl hpos hmm.symm HTH.out ?_)
      obtain ⟨q1, q2, q3, q4, q5, q6, q7⟩ := HEQ.out
      have hf := v2_facts (N := N) (k := k) HH.out q7 HLR.out q3.symm (show mm ≤ rest.length by omega) (by omega)
      obtain ⟨f1, f2, f3, f4, f5, f6, f7, f8, f9, f10⟩ := hf
      rw [q2] at f9
      obtain ⟨U, hU⟩ : ∃ z, wr.drew.setCells b (9 + k) (bv (rest.take mm)) = z := ⟨_, rfl⟩
      rw [hU] at f9 f10 ⊢
      have hwrap : IntKind.u64.wrap ((N : Int) + (mm : Int)) = ((N + mm : Nat) : Int) := by
        have : (N : Int) + (mm : Int) = ((N + mm : Nat) : Int) := by omega
        rw [this]
        simp [IntKind.wrap, IntKind.signed, IntKind.bits]
        omega
      have HU := Lib.hid hU
      clear hU
      by_cases hfull : k + mm = 64
      · have hcond : ((N : Int) + (mm : Int)) % 64 = 0 := by omega
        have hlw : (lay L (rest.take mm) k).length = 64 := by rw [lay_len L _ k (by rw [List.length_take]; omega), q7]
        obtain ⟨L2, hL2⟩ : ∃ z, lay L (rest.take mm) k = z := ⟨_, rfl⟩
        rw [hL2] at f3 hlw
        obtain ⟨CS, hCS⟩ : ∃ z, bv L2 = z := ⟨_, rfl⟩
        have hcl : CS.length = 64 := by rw [← hCS, bv_len, hlw]
        rw [hCS] at f3
        have hw2 : U.setCell ⟨b, 73, none⟩ (.int .u64 ((N : Int) + (mm : Int))) = V2 wr b k N mm (rest.take mm) := by rw [← HU.out]; unfold V2; rw [Int.natCast_add]
        obtain ⟨Z, hZ⟩ : ∃ z, V2 wr b k N mm (rest.take mm) = z := ⟨_, rfl⟩
        rw [hZ] at hw2 f1 f2 f3 f4 f6 f8
        rw [Int.natCast_add] at f6
        have hTz : Tab Z := ⟨range_keep hT.1 (HK.out.trans f8) hT.pos.1 (by omega), range_keep hT.2 (HK.out.trans f8) hT.pos.2 (by omega)⟩
        have hbz : b < Z.heap.size := Nat.lt_of_lt_of_le HH.out.lt f8.size
        have hwords := fun x : World => words_any L2 hlw x
        rw [hCS] at hwords
        obtain ⟨ST, hST⟩ : ∃ z, stN l' (l'.length / 64) = z := ⟨_, rfl⟩
        rw [hST] at f1
        obtain ⟨WS, hWS⟩ : ∃ z, wordsN L2 64 = z := ⟨_, rfl⟩
        have hwl : WS.length = 64 := by rw [← hWS, wordsN_len]
        have hmix := fun (x : World) (hx : Below Z.heap.size Z x) => mix_any b 1 ST WS hwl x (hTz.below hx) (range_below f1 hx hbz) (there_below f2 hx hbz hbz) (Nat.lt_of_lt_of_le hbz hx.size)
        rw [hWS] at hwords
        obtain ⟨WV, hWV⟩ : ∃ z, wvs WS = z := ⟨_, rfl⟩
        rw [hWV] at hwords hmix
        have HWORDS := Lib.hid hwords
        have HMIX := Lib.hid hmix
        have HALL := Lib.hid (⟨hL2, hCS, hZ, hST, hWS⟩ : lay L (rest.take mm) k = L2 ∧ bv L2 = CS ∧ V2 wr b k N mm (rest.take mm) = Z ∧ stN l' (l'.length / 64) = ST ∧ wordsN L2 64 = WS)
        have hu64 := Tryd.underlying109
        have hsz64 : (Tryd.prog.info? 109).map (·.size) = some CS.length := by rw [hcl]; kernel_rfl
        have F3 := Lib.hid f3
        have F2 := Lib.hid f2
        have F8 := Lib.hid f8
        have HQ := Lib.hid (⟨q1, q2, q3, q4, q5, q6, q7⟩ : l ++ done = l' ∧ l'.length = N ∧ l'.length % 64 = k ∧ rest.length = n1 ∧ rest.length = m ∧ p = done ++ rest ∧ L.length = 64)
        have k0 : Below Z.heap.size Z Z.drew := ⟨rfl, rfl, rfl, Nat.le_refl _, fun _ _ => rfl⟩
        clear hL2 hCS hZ hST hWS hWV hwords hmix f1 f2 f4 f5 f7 q1 q2 q3 q4 q5 q6 q7 hlw hcl
        go_upto_region 5 with fail
        go_region_held3 (fun w' => w'.rangeAt b 9 CS ∧ b < w'.heap.size)
          (first | exact ⟨f3, hbz⟩ | exact ⟨range_below F3.out k1 hbz, Nat.lt_of_lt_of_le hbz k1.size⟩ | exact ⟨r3, Nat.lt_of_lt_of_le hbz z3⟩ | fail)
          (first
            | (go_at_call 74; refine (HWORDS.out _).mono ?_; rintro e x1 ⟨rfl, hx1⟩; have k1 := k0.trans (hx1.mono k0.size))
            | (go_at_call 73; refine (HMIX.out _ k1).mono ?_; rintro e x2 ⟨rfl, hx2, hkr⟩; have r3 : x2.rangeAt b 9 CS := (fun j v hj => (hkr.cells (9 + j) (Or.inr (by omega))).trans (range_below F3.out k1 hbz j v hj)); have z3 : Z.heap.size ≤ x2.heap.size := Nat.le_trans k1.size hkr.k.size)
            | fail)
        all_goals
          go_wp2_with fail
          obtain ⟨hL2, hCS, hZ, hST, hWS⟩ := HALL.out
          obtain ⟨q1, q2, q3, q4, q5, q6, q7⟩ := HQ.out
          have hkz : KeepR Z x2 b 1 8 := (KeepR.of k1 hbz).trans hkr
          have hst8 : (wvs (stL (mixed ST WS))).length = 8 := by rw [wvs_len]; rfl
          have hxt : x2.there b 1 8 := fun j hj => ⟨by rw [hx2 j _ (List.getElem?_eq_getElem (by rw [hst8]; exact hj))]; rfl, by rw [hkz.fz]; exact (F2.out j hj).2⟩
          refine ⟨⟨n1 - mm, done ++ rest.take mm, rest.drop mm, _, _, _, ?_, ?_, rfl, by omega, ?_, ?_, ?_, ?_⟩, by show n1 - mm < n1; omega⟩
          · rw [List.append_assoc, List.take_append_drop]; exact q6
          · rw [List.length_drop]; omega
          · exact rd_drop HR1.out mm hmm1 (by omega)
          · exact ne_drop HNE.out mm (by omega)
          · rw [← List.append_assoc, q1]
            refine hash_full HH.out q7 HLR.out q3.symm (by omega) q2 (by rw [← q3]; exact HLA.out) hfull (by omega) ?_ hxt (by rw [hZ]; exact hkz) (by rw [hZ]; exact z3)
            rw [hL2, hST, hWS]
            exact hx2
          · exact HK.out.trans (F8.out.trans hkz.k)
      · have hcond : ¬ ((N : Int) + (mm : Int)) % 64 = 0 := by omega
        go_wp2_with fail
        have hw2 : U.setCell ⟨b, 73, none⟩ (.int .u64 ((N : Int) + (mm : Int))) = V2 wr b k N mm (rest.take mm) := by rw [← HU.out]; unfold V2; rw [Int.natCast_add]
        rw [hw2]
        refine ⟨⟨n1 - mm, done ++ rest.take mm, rest.drop mm, _, _, _, ?_, ?_, rfl, by omega, ?_, ?_, ?_, ?_⟩, by show n1 - mm < n1; omega⟩
        · rw [List.append_assoc, List.take_append_drop]; exact q6
        · rw [List.length_drop]; omega
        · exact rd_drop HR1.out mm hmm1 (by omega)
        · exact ne_drop HNE.out mm (by omega)
        · rw [← List.append_assoc, q1]
          exact hash_part HH.out q7 HLR.out q3.symm (by omega) q2 (by rw [← q3]; exact HLA.out) (by omega) (by omega)
        · exact HK.out.trans f8
    · have hr0 : rest = [] := List.eq_nil_of_length_eq_zero (by omega)
      rw [hr0, List.append_nil] at hp
      rw [← hp] at hH
      obtain rfl : n1 = 0 := by omega
      have HH := Lib.hid hH
      have HK := Lib.hid hk
      clear hH hk hr1
      go_wp2_with fail
      go_end0
      exact ⟨rfl, HH.out, HK.out⟩
end Go.Proofs.YtbcgnacfhpahkaaDoor.dg
