/- RecordMakes: for every input the law answers true and leaves its arguments as they were; the table that the program lays is tied to its text. -/
import Derived.Test.YtmdaglcpnakjhaaDoorRcST
namespace Go.Proofs.YtmdaglcpnakjhaaDoor.recordMakesDone
open Go.RowKit Mem OM LM DM dg rc
set_option maxRecDepth 20000
set_option linter.unusedSimpArgs false
attribute [local go_sem] Oper.semAt_some
theorem both (n : Nat) (l : List UInt8) (known : Bool) : ∃ (K S : Int) (d x : List UInt8) (er : Int), d.length = 32 ∧
    (∀ (A : Option Addr) (c B : Nat) (w : World), Rd w B A n (bv l) → B ≤ w.heap.size → n ≤ c → Tab w → Calls Tryd.prog 18 #[.slice A n c, .bool known] w (MadeV w K S d x er)) ∧
    (∀ (A : Option Addr) (c B : Nat) (w : World), Rd w B A n (bv l) → B ≤ w.heap.size → n ≤ c → Tab w → Calls Tryd.prog 19 #[.slice A n c, .bool known] w (MadeV w K S d x er)) := by
  by_cases h : 1 ≤ n ∧ n ≤ 256
  · have hfs : fitsS (n : Nat) = true := decide_eq_true (by omega)
    refine ⟨if known then 1 else mkK l, n, digest l, if known then [] else mkD l, 0, digest_len l, fun A c B w hr hB hc hT => ?_, fun A c B w hr hB hc hT => (refMake_any A n c B l known w hr hB hc hT h.1 h.2).mono fun _ _ h => h.v⟩
    cases known with
    | true => exact (make_known A n c B l w hr hB hc hT hfs).mono fun _ _ h => h.v
    | false => exact (make_new A n c B l w hr hB hc hT hfs).mono fun _ _ h => h.v
  · have hfs : fitsS (n : Nat) = false := decide_eq_false (by omega)
    exact ⟨0, 0, z32, [], 100, z32_len, fun A c B w _ _ _ _ => (make_bad A n c known w hfs).mono fun _ _ h => h.v, fun A c B w _ _ _ _ => (refMake_bad A n c known w (by omega)).mono fun _ _ h => h.v⟩
set_option maxHeartbeats 8000000 in
theorem walk (A : Option Addr) (n c : Nat) (l : List UInt8) (known : Bool) (w : World) (hT : Tab w) (hr : Rd w w.heap.size A n (bv l)) (hc : n ≤ c) (hn : n ≤ 9223372036854775807) :
    Calls Tryd.prog 4 #[.slice A n c, .bool known] w fun e w' => e = .returned (.bool true) ∧ Below w.heap.size w w' := by
  have hl : l.length = n := by rw [← hr.len, bv_len]
  have HT := Lib.hid hT
  clear hT
  by_cases hbig : 4096 < n
  · have h1i : (4096 : Int) < n := by omega
    go_enter Tryd.func4, Tryd.ntmps4
    go_wp2_with (go_at_call 12; refine (rc.awake_any _ HT.out).mono ?_; rintro e w1 ⟨rfl, hb1⟩)
    go_ret
    exact ⟨rfl, hb1⟩
  have hbi : ¬ (4096 : Int) < n := by omega
  obtain ⟨K, S, d, x, er, hd, hmk, hrf⟩ := both n l known
  unfold MadeV at hmk hrf
  have hcl := oct.clone_any A n c _ l w hr (Nat.le_refl _) (by omega)
  unfold oct.Made at hcl
  have HCL := Lib.hid hcl
  have HMK := Lib.hid hmk
  have HRF := Lib.hid hrf
  have HR := Lib.hid (And.intro hl hr)
  clear hcl hmk hrf hl hr
  go_enter Tryd.func4, Tryd.ntmps4
  go_upto_region 4 with (first
    | (go_at_call 17; refine (HCL.out).mono ?_; rintro e w1 ⟨A1, n1, d1, rfl, ho1, hb1⟩)
    | fail)
  have hn1 : n1 = n := by have := ho1.len; rw [bv_len] at this; rw [← this]; exact HR.out.1
  subst hn1
  have hM1 := HMK.out A1 d1 _ w1 ho1.rd (Nat.le_refl _) ho1.cap.1 (HT.out.below hb1)
  have HM1 := Lib.hid hM1
  have HO1 := Lib.hid (And.intro ho1 hb1)
  clear hM1 ho1 hb1 HMK HCL
  go_upto_region 5 with (first
    | (go_at_call 18; refine (HM1.out).mono ?_; rintro e w2 ⟨RA, A2, n2, c2, rfl, HRA, ho2, hb2⟩; have hsz := va_size hd HRA; have hon := va_one HRA)
    | (refine wpList_store_mid rfl 26 (.tmp 6) (.tmp 22) rfl w2.heap.size 0 RA rfl rfl (by rw [hsz]; exact rec_zero_there w2) (by rw [hsz]; exact info_rec) hon ?_)
    | fail)
  show Code.wp _ _ _ _ ((w2.alloc (.cells recZ.toArray 26)).setCells w2.heap.size 0 RA.toList)
  have hst := rec_stored (K := K) (S := S) (A := A2) (n := n2) (c := c2) hd w2
  rw [show RA.toList = recL K S d A2 n2 c2 by rw [HRA.out]]
  obtain ⟨w3, hw3⟩ : ∃ z, (w2.alloc (.cells recZ.toArray 26)).setCells w2.heap.size 0 (recL K S d A2 n2 c2) = z := ⟨_, rfl⟩
  rw [hw3] at hst ⊢
  obtain ⟨g6, hg6⟩ : ∃ z, w2.heap.size = z := ⟨_, rfl⟩
  have h23 := hst.2.2.1
  have hb13 : Below w1.heap.size w1 w3 := hb2.trans (h23.mono hb2.size)
  have hb03 : Below w.heap.size w w3 := HO1.out.2.trans (hb13.mono HO1.out.2.size)
  have hM3 := HRF.out A c _ w3 (HR.out.2.below hb03 (Nat.le_refl _)) hb03.size hc (HT.out.below hb03)
  rw [hg6] at hst ⊢
  have hg63 : g6 < w3.heap.size := hst.2.2.2
  have HM3 := Lib.hid hM3
  have HS3 := Lib.hid hst
  have HO2 := Lib.hid ho2
  clear hM3 hst hw3 HM1 ho2 hon hsz
  go_upto_region 6 with (first
    | (go_at_call 19; refine (HM3.out).mono ?_; rintro e w4 ⟨RB, A4, n4, c4, rfl, HRB, ho4, hb4⟩; have hsz4 := va_size hd HRB; have hon4 := va_one HRB)
    | (refine wpList_store_mid rfl 26 (.tmp 8) (.tmp 28) rfl w4.heap.size 0 RB rfl rfl (by rw [hsz4]; exact rec_zero_there w4) (by rw [hsz4]; exact info_rec) hon4 ?_)
    | fail)
  show Code.wp _ _ _ _ ((w4.alloc (.cells recZ.toArray 26)).setCells w4.heap.size 0 RB.toList)
  have hst := rec_stored (K := K) (S := S) (A := A4) (n := n4) (c := c4) hd w4
  rw [show RB.toList = recL K S d A4 n4 c4 by rw [HRB.out]]
  obtain ⟨w5, hw5⟩ : ∃ z, (w4.alloc (.cells recZ.toArray 26)).setCells w4.heap.size 0 (recL K S d A4 n4 c4) = z := ⟨_, rfl⟩
  rw [hw5] at hst ⊢
  have h45 := hst.2.2.1
  have hb35 : Below w3.heap.size w3 w5 := hb4.trans (h45.mono hb4.size)
  have hb25 : Below w2.heap.size w2 w5 := h23.trans (hb35.mono h23.size)
  have hb15 : Below w1.heap.size w1 w5 := hb13.trans (hb35.mono hb13.size)
  have hR6 := dg.range_below HS3.out.1 hb35 hg63
  have hrd2 := (HO2.out.rd.below hb25 (Nat.le_refl _)).more hb25.size
  have hrd4 := (ho4.rd.below h45 (Nat.le_refl _)).more h45.size
  have hsame := refSame_any K S d hd A2 A4 n2 c2 n4 c4 _ x w5 hrd2 hrd4 (Nat.le_refl _)
  rw [← HRA.out, ← HRB.out] at hsame
  have hR8 := hst.1
  obtain ⟨g8, hg8⟩ : ∃ z, w4.heap.size = z := ⟨_, rfl⟩
  rw [hg8] at hR8 ⊢
  have hg65 : g6 < w5.heap.size := Nat.lt_of_lt_of_le hg63 hb35.size
  have c34 : w5.cell? ⟨g6, 34, none⟩ = some (.slice A2 n2 c2) := by have := hR6 34 _ (recL_34 hd); rwa [Nat.zero_add] at this
  have hinf2 : (Tryd.prog.info? 26).map (·.size) = some (recL K S d A2 n2 c2).length := by rw [recL_len hd]; exact info_rec
  have hinf4 : (Tryd.prog.info? 26).map (·.size) = some (recL K S d A4 n4 c4).length := by rw [recL_len hd]; exact info_rec
  obtain ⟨RL2, hRL2⟩ : ∃ z, recL K S d A2 n2 c2 = z := ⟨_, rfl⟩
  obtain ⟨RL4, hRL4⟩ : ∃ z, recL K S d A4 n4 c4 = z := ⟨_, rfl⟩
  rw [hRL2] at hR6 hinf2 HRA
  rw [hRL4] at hR8 hinf4 HRB
  have HSM := Lib.hid hsame
  have hk : (er == er) = true := beq_self_eq_true er
  have HBB := Lib.hid (And.intro hb15 hb25)
  clear hsame hst hw5 hrd2 hrd4 ho4 hon4 hsz4 hb35 hb15 hb25 h45 hb4 h23 hb13 hRL2 hRL4 HM3
  go_upto_region 7 with (first
    | (refine wpList_load_mid rfl 26 (.tmp 6) rfl g6 0 rfl RL2 _ hR6 Tryd.underlying26 rfl hinf2 ?_; rw [← HRA.out])
    | (refine wpList_load_mid rfl 26 (.tmp 8) rfl g8 0 rfl RL4 _ hR8 Tryd.underlying26 rfl hinf4 ?_; rw [← HRB.out])
    | (go_at_call 20; refine (HSM.out).mono ?_; rintro e w6 ⟨rfl, hb6⟩)
    | fail)
  have c346 := (hb6.cell (p := ⟨g6, 34, none⟩) hg65).trans c34
  have hb16 : Below w1.heap.size w1 w6 := HBB.out.1.trans (hb6.mono HBB.out.1.size)
  have hO6 : Ow w6 w1.heap.size 5 A2 n2 c2 (bv x) := HO2.out.below (HBB.out.2.trans (hb6.mono HBB.out.2.size)) (Nat.le_refl _)
  have hg66 : g6 < w6.heap.size := Nat.lt_of_lt_of_le hg65 hb6.size
  have h0n : n2 ≤ 9223372036854775807 := by have := hO6.cap; unfold maxLen at this; omega
  have H6 := Lib.hid (And.intro hb16 hO6)
  clear hR6 hR8 c34 hb6 hO6 hb16 HSM
  go_wp2_with fail
  go_loopw [41] (fun i wr => ∃ (k : Nat) (xs : List Value), i = .int .i64 (k : Int) ∧ k ≤ n2 ∧ Hid (Ow wr w1.heap.size 5 A2 n2 c2 xs ∧ (∀ v ∈ xs, ∃ z, v = .int .u8 z) ∧ Below w1.heap.size w6 wr ∧ wr.cell? ⟨g6, 34, none⟩ = some (.slice A2 n2 c2))) (fun i _ => n2 - (intOf i).toNat)
  case atStart => exact ⟨0, bv x, rfl, Nat.zero_le _, Lib.hid ⟨H6.out.2, (fun v hv => by obtain ⟨b, _, rfl⟩ := List.mem_map.1 hv; exact ⟨_, rfl⟩), Below.refl _ _, c346⟩⟩
  case round =>
    obtain ⟨k, xs, rfl, hk2, HQ⟩ := hrel
    have cq := HQ.out.2.2.2
    by_cases hkn : k < n2
    · have hki : (k : Int) < (n2 : Int) := by omega
      obtain ⟨gb, rfl, hgb1, hgb2⟩ := HQ.out.1.at0 (by omega)
      have hgb6 : gb < g6 := by have := (HO2.out.blk_lt gb rfl).2; omega
      have hxl : k < xs.length := by rw [HQ.out.1.len]; exact hkn
      obtain ⟨z, hz⟩ := HQ.out.2.1 _ (List.getElem_mem hxl)
      have hs := fun u => HQ.out.1.set k u hkn
      have ck := (hs (.int .u8 0)).2.2.1
      have zk := (hs (.int .u8 0)).2.2.2
      rw [List.getElem?_eq_getElem hxl, hz] at ck
      have HSS := Lib.hid hs
      clear hs hz
      go_wp2_with fail
      have hmem : ∀ u : Int, ∀ v ∈ xs.set k (.int .u8 u), ∃ z, v = .int .u8 z := fun u v hv => by
        rcases List.mem_or_eq_of_mem_set hv with h | h
        · exact HQ.out.2.1 v h
        · exact ⟨u, h⟩
      have hw6r : w1.heap.size ≤ wr.heap.size := Nat.le_trans H6.out.1.size HQ.out.2.2.1.size
      have hg6r : g6 < wr.heap.size := Nat.lt_of_lt_of_le hg66 HQ.out.2.2.1.size
      exact ⟨⟨k + 1, _, by go_num, by omega, Lib.hid ⟨(HSS.out _).1, hmem _, (dg.Keep1.set wr gb k _).below HQ.out.2.2.1 hw6r hgb1, ((dg.Keep1.set wr gb k _).cell (a := ⟨g6, 34, none⟩) hg6r (by show g6 ≠ gb; omega)).trans cq⟩⟩, by simp [intOf]; omega⟩
    · obtain rfl : n2 = k := by omega
      have hkn2 : ¬ ((n2 : Nat) : Int) < (n2 : Int) := by omega
      have hb1r : Below w1.heap.size w1 wr := H6.out.1.trans HQ.out.2.2.1
      have hbr : Below w.heap.size w wr := HO1.out.2.trans (hb1r.mono HO1.out.2.size)
      have hr1 := (HO1.out.1.rd.below hb1r (Nat.le_refl _)).more hb1r.size
      have hrA := (HR.out.2.below hbr (Nat.le_refl _)).more hbr.size
      have heq2 := oct.equal_any A1 A n1 d1 n1 c wr.heap.size l l wr hr1 hrA
      rw [decide_eq_true rfl] at heq2
      have HEQ2 := Lib.hid heq2
      have hTr := HT.out.below hbr
      have HTR := Lib.hid (And.intro hTr hbr)
      clear heq2 hr1 hrA hTr hbr hb1r
      go_wp2_with (first
        | (go_at_call 21; refine (HEQ2.out).mono ?_; rintro e w9 ⟨rfl, rfl⟩)
        | (go_at_call 12; refine (rc.awake_any _ HTR.out.1).mono ?_; rintro e w10 ⟨rfl, hb10⟩)
        | fail)
      go_ret
      exact ⟨rfl, HTR.out.2.trans (hb10.mono HTR.out.2.size)⟩
end Go.Proofs.YtmdaglcpnakjhaaDoor.recordMakesDone
namespace Go.Proofs.YtmdaglcpnakjhaaDoor.recordMakesDone
open Go.ChangeShapes Go.WideShapes Go.ChangeAt Go.RowKit Mem OM LM DM dg rc
set_option linter.unusedVariables false
set_option maxRecDepth 100000
theorem contract (H : Type) (enc : TypeId × Value → H) (W : World) (base : Nat) (args : Array Value) (ds gs : List (DataW H)) (before : List MemPlace)
    (hval : ∀ (j : Nat) t v, Tryd.f4.params[j]? = some t → args[j]? = some v → Value.okWide Tryd.prog W .any base t v)
    (hW : DataW.Whole enc Tryd.prog Tryd.f4.params.toList Rows.recordMakesSpec.vars false W args.toList ds gs before) (hL : laidMetH Tryd.prog Rows.recordMakesRow.laid W) :
    Calls Tryd.prog 4 args W fun e W' => ∃ v, e = .returned v ∧ Rows.recordMakesSpec.post enc Tryd.prog Tryd.f4 false true false false W args v W' := by
  have hW' := hW
  have hT : Tab W := table rfl hL
  obtain ⟨p, q, hA0, hV, rfl, hfz, hnd⟩ := hW
  have hA : DataW.TrodAll enc Tryd.prog W 0 (fun _ => true) true Tryd.f4.params.toList args.toList ds p := hA0
  rw [Tryd.params4] at hA hval
  obtain ⟨v0, vs0, d0, ds0, p0, q0, hargs, rfl, rfl, h0, r0⟩ := trodAll_cons hA
  obtain ⟨v1, vs1, d1, ds1, p1, q1, rfl, rfl, rfl, h1, r1⟩ := trodAll_cons r0
  obtain ⟨rfl, rfl, rfl⟩ := trodAll_nil r1
  obtain rfl : args = #[v0, v1] := by cases args; simp_all
  obtain ⟨rfl, rfl⟩ := trodVars_none hV
  obtain ⟨a0, n0, c0, rfl⟩ := okWide_slice Tryd.underlying24 (hval 0 24 v0 rfl rfl)
  have k0 := h0
  have lt0 : ∀ x ∈ p0, x.block < W.heap.size := by obtain ⟨m, hm⟩ := k0; exact DataW.trod_lt m _ _ _ hm
  obtain ⟨l0, w0, m0, b0⟩ : ∃ l : List UInt8, Rd W W.heap.size a0 n0 (bv l) ∧ n0 ≤ c0 ∧ n0 ≤ 9223372036854775807 := by
    obtain ⟨fuel, hf⟩ := h0
    rcases open_ints Tryd.underlying24 Tryd.underlying5 (by kernel_rfl) hf with ⟨hcs, _⟩ | ⟨x, l, c, zs, hcs, _, hl, hm, hz, _, hcell, hwz⟩
    · simp [Value.cells] at hcs
      obtain ⟨rfl, rfl, rfl⟩ := hcs
      exact ⟨[], Rd.nil _ _ _, Nat.le_refl _, by omega⟩
    · simp [Value.cells] at hcs
      obtain ⟨rfl, rfl, rfl⟩ := hcs
      unfold maxLen at hm
      obtain ⟨l, hl2⟩ := rd_bytes hl (by simpa using hz) hcell hwz
      exact ⟨l, hl2, hl, by omega⟩
  obtain ⟨a1, rfl, rfl, rfl⟩ := open_bool Tryd.underlying4 (hval 1 4 v1 rfl rfl) h1
  clear hA0 hval
  refine (walk a0 n0 c0 l0 a1 W hT w0 m0 b0).mono fun e W' ⟨he, bel⟩ => ?_
  subst he
  exact ⟨_, rfl, _, _, _, [], _, [], hW', trodAll_mk1 (shut_bool Tryd.underlying4 _), (trodAll_cons_mk (Below.trod laidOut (by kernel_rfl) (of_decide_eq_true (by kernel_rfl)) k0 bel lt0) (trodAll_cons_mk (shut_bool Tryd.underlying4 _) trodAll_mk0)), rfl, bel.frame _, fun h => by cases h⟩

theorem laid_met (os : Os) : laidMet Tryd.prog Rows.recordMakesRow.laid ((laidWorld os).forCall (fun _ _ => 0) ⟨#[], #[.slice none 0 0, .bool false], []⟩).memory :=
  laidMet_of_run' 8 (by kernel_rfl) (by kernel_rfl)
theorem reads (os : Os) {H : Type} (enc : TypeId × Value → H) : ∃ places, DataW.whole enc Tryd.prog ((laidWorld os).forCall (fun _ _ => 0) ⟨#[], #[.slice none 0 0, .bool false], []⟩).memory Tryd.f4.params.toList Rows.recordMakesSpec.vars false (#[.slice none 0 0, .bool false] : Array Value).toList 8 = some ([.nil, .lit (.bool false)], [], places) :=
  ⟨[], by kernel_rfl⟩
set_option maxRecDepth 100000 in
theorem lifted (os : Os) (started : os.Started) (H : Type) (enc : TypeId × Value → H) (F : Stop.Interp) :
    ReturnsInHanded {} Tryd.checked os 4 .any ((OpenSpec.ofChange Rows.recordMakesSpec).preRow enc Tryd.prog Tryd.f4 Rows.recordMakesRow.domain false Rows.recordMakesRow.laid) (((OpenSpec.ofChange Rows.recordMakesSpec).at F).post enc Tryd.prog Tryd.f4 false true false false) := by
  obtain ⟨places, hx⟩ := reads os enc
  refine returnsInHanded_of_row (C := Tryd.checked) (s := OpenSpec.ofChange Rows.recordMakesSpec) own started (by kernel_rfl) Tryd.func4
    (witness_row_at (enc := enc) (C := Tryd.checked) false (laidWorld os) #[.slice none 0 0, .bool false] rfl (by kernel_rfl) (by kernel_rfl) (by kernel_rfl)
      (OpenSpec.preRow_of_cond 8 hx (by kernel_rfl) (fun k hk => by cases hk) (by kernel_rfl) (laid_met os))) ?_
  intro W base args ds gs before hval hW _ _ _ hL _ _
  exact contract H enc W base args ds gs before hval hW hL
theorem said : Rows.RecordMakesSaid :=
  OpenClaim.holds_of_cond 4 Tryd.f4 rfl rfl rfl rfl rfl rfl rfl ⟨rfl, rfl, rfl, rfl, rfl⟩ rfl rfl rfl rfl rfl (by kernel_rfl) Tryd.func4 (by kernel_rfl)
    (of_decide_eq_true (by kernel_rfl)) (by unfold Func.isWrapper; first | (rw [if_pos (by decide +kernel)]; kernel_rfl) | (rw [if_neg (by decide +kernel)]; exact ⟨rfl, rfl⟩))
    (fun os started H enc _ F => by rw [OpenClaim.pre_eq_preRow]; exact lifted os started H enc F)
theorem plain (f : FuncId) (fn : Func) (hf : Tryd.pinned.checked.prog.funcNamed "flume/flumelaw10.RecordMakes" = some f) (hfn : Tryd.pinned.checked.prog.funcs[f]? = some fn) :
    false = Tryd.pinned.checked.prog.looks [] ∧ ∀ (j : Nat) t, fn.params[j]? = some t → Tryd.pinned.checked.prog.wantsStandIn t = false := by
  obtain rfl : f = 4 := Option.some.inj ((show Tryd.prog.funcNamed "flume/flumelaw10.RecordMakes" = some 4 by kernel_rfl).symm.trans hf) |>.symm
  obtain rfl : fn = Tryd.f4 := (Option.some.inj (Tryd.func4.symm.trans hfn)).symm
  refine ⟨by kernel_rfl, fun j t ht => ?_⟩
  rw [Tryd.params4] at ht
  have hm : t ∈ [24, 4] := by simpa using Array.mem_of_getElem? ht
  have hall : ([24, 4].all fun u => !Tryd.prog.wantsStandIn u) = true := by kernel_rfl
  exact (show Tryd.prog.wantsStandIn t = false by simpa using List.all_eq_true.1 hall t hm)
/-- the given statement -/
theorem proved : Rows.RecordMakesCardSaid :=
  Claim7.holds_tied_plain_at .later [] _ _ _ _ said (fun _ h => by cases h) (by kernel_rfl) (fun _ h => by cases h) recordMakes_row_tie rfl ⟨rfl, rfl⟩ (by kernel_rfl) rfl plain (by kernel_rfl)
#print axioms proved
end Go.Proofs.YtmdaglcpnakjhaaDoor.recordMakesDone
