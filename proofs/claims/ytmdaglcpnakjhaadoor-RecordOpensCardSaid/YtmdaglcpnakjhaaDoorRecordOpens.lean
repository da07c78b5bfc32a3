/- RecordOpens: for every input the law answers true and leaves its arguments as they were; the table that the program lays is tied to its text. -/
import Derived.Test.YtmdaglcpnakjhaaDoorRcQR
import Derived.Test.YtmdaglcpnakjhaaDoorRcOP
namespace Go.Proofs.YtmdaglcpnakjhaaDoor.recordOpensDone
open Go.RowKit Mem OM LM DM dg rc
set_option maxRecDepth 20000
set_option linter.unusedSimpArgs false
attribute [local go_sem] Oper.semAt_some
theorem recL_set34 {K S : Int} {d : List UInt8} {A A' : Option Addr} {n c n' c' : Nat} (hd : d.length = 32) : (recL K S d A n c).set 34 (.slice A' n' c') = recL K S d A' n' c' := rec_set34 hd
set_option maxHeartbeats 8000000 in
theorem walk (K S : Int) (d l : List UInt8) (A : Option Addr) (n c : Nat) (w : World) (hT : Tab w) (hd : d.length = 32) (hr : Rd w w.heap.size A n (bv l)) (hc : n ≤ c) (hn : n ≤ 9223372036854775807) (_hK : -9223372036854775808 ≤ K ∧ K ≤ 9223372036854775807) (hS : -9223372036854775808 ≤ S ∧ S ≤ 9223372036854775807) :
    Calls Tryd.prog 5 #[.agg (recL K S d A n c).toArray] w fun e w' => e = .returned (.bool true) ∧ Below w.heap.size w w' := by
  have hl : l.length = n := by rw [← hr.len, bv_len]
  have hrg := dg.range_new w (recL K S d A n c) 26
  have hb : Below w.heap.size w (w.alloc (.cells (recL K S d A n c).toArray 26)) := (Below.refl _ _).alloc (Nat.le_refl _) _
  have hlt : w.heap.size < (w.alloc (.cells (recL K S d A n c).toArray 26)).heap.size := by simp
  have hinfR : (Tryd.prog.info? 26).map (·.size) = some (recL K S d A n c).length := by rw [recL_len hd]; exact info_rec
  have c34 : (w.alloc (.cells (recL K S d A n c).toArray 26)).cell? ⟨w.heap.size, 34, none⟩ = some (.slice A n c) := by have := hrg 34 _ (recL_34 hd); rwa [Nat.zero_add] at this
  have hone : (recL K S d A n c).toArray.all (·.oneCell') = true := all_oneCell_toArray rec_one
  have hsz : (recL K S d A n c).toArray.size = 35 := by rw [List.size_toArray, recL_len hd]
  obtain ⟨RL, hRL⟩ : ∃ z, recL K S d A n c = z := ⟨_, rfl⟩
  rw [hRL] at hrg hb hlt hinfR c34 hone hsz ⊢
  obtain ⟨RA, hRA⟩ : ∃ z, RL.toArray = z := ⟨_, rfl⟩
  rw [hRA] at hrg hb hlt c34 hone hsz ⊢
  obtain ⟨W, hW⟩ : ∃ z, w.alloc (.cells RA 26) = z := ⟨_, rfl⟩
  rw [hW] at hrg hb hlt c34
  obtain ⟨g1, hg1e⟩ : ∃ z, w.heap.size = z := ⟨_, rfl⟩
  have HG := Lib.hid hg1e
  have HT := Lib.hid hT
  have HL := Lib.hid (And.intro hl (And.intro hr hRL))
  have HRA := Lib.hid hRA
  clear hT hl hr hRL hRA
  by_cases hbig : 4096 < n
  · have h1i : (4096 : Int) < n := by omega
    rw [hg1e] at hrg hb hlt c34 ⊢
    go_enter Tryd.func5, Tryd.ntmps5
    go_upto_region 1 with fail
    try rw [hW]
    try rw [hg1e]
    go_wp2_with (go_at_call 12; refine (rc.awake_any _ (HT.out.below (by rw [HG.out]; exact hb))).mono ?_; rintro e w1 ⟨rfl, hb1⟩)
    go_ret
    exact ⟨rfl, hb.trans (hb1.mono (Nat.le_of_lt hlt))⟩
  have hbi : ¬ (4096 : Int) < n := by omega
  have hbW : Below w.heap.size w W := hb
  have hrW := HL.out.2.1.below hbW (Nat.le_refl _)
  rw [hg1e] at hrg hb hlt c34 hrW ⊢
  go_enter Tryd.func5, Tryd.ntmps5
  go_upto_region 1 with fail
  try rw [hW]
  try rw [hg1e]
  go_upto_region 4 with (first
    | (refine wpList_load_mid rfl 26 (.tmp 1) rfl g1 0 rfl RL _ hrg Tryd.underlying26 rfl hinfR ?_; rw [HRA.out])
    | (refine wpList_store_mid rfl 26 (.tmp 3) (.tmp 15) rfl W.heap.size 0 RA rfl rfl (by rw [hsz]; exact rec_zero_there W) (by rw [hsz]; exact info_rec) hone ?_)
    | fail)
  show Code.wp _ _ _ _ ((W.alloc (.cells recZ.toArray 26)).setCells W.heap.size 0 RA.toList)
  have hst := rec_stored (K := K) (S := S) (A := A) (n := n) (c := c) hd W
  rw [HL.out.2.2] at hst
  rw [show RA.toList = RL by rw [← HRA.out]]
  obtain ⟨w3, hw3⟩ : ∃ z, (W.alloc (.cells recZ.toArray 26)).setCells W.heap.size 0 RL = z := ⟨_, rfl⟩
  rw [hw3] at hst ⊢
  obtain ⟨g3, hg3e⟩ : ∃ z, W.heap.size = z := ⟨_, rfl⟩
  have hb3 := hst.2.2.1
  have hr13 := dg.range_below hrg hb3 hlt
  have c343 := (hb3.cell (p := ⟨g1, 34, none⟩) hlt).trans c34
  have hrd3 := hrW.below hb3 (Nat.le_of_lt hlt)
  have hg13 : g1 < g3 := by rw [← hg3e]; exact hlt
  rw [hg3e] at hst hb3 ⊢
  have hcl := oct.clone_any A n c _ l w3 hrd3 (Nat.le_of_lt (Nat.lt_trans hg13 hst.2.2.2)) (by omega)
  unfold oct.Made at hcl
  have HCL := Lib.hid hcl
  have H3 := Lib.hid (And.intro hst.1 (And.intro hst.2.1 (And.intro hb3 (And.intro hr13 hrd3))))
  have hg33 := hst.2.2.2
  clear hcl hst hb3 hr13 hrd3 hw3 c34 hrg
  go_upto_region 5 with (first
    | (go_at_call 17; refine (HCL.out).mono ?_; rintro e w4 ⟨A4, n4, d4, rfl, ho4, hb4⟩; have z34 := ((dg.there_below H3.out.2.1 hb4 hg33 hg33) 34 (by omega)); rw [Nat.zero_add] at z34; obtain ⟨y34, x34⟩ := z34; obtain ⟨u34, v34⟩ := Option.isSome_iff_exists.1 y34)
    | fail)
  have hrs4 := range_set1 (dg.range_below H3.out.1 hb4 hg33) 34 (.slice A4 n4 d4)
  rw [← HL.out.2.2, recL_set34 hd] at hrs4
  have hk4 := dg.Keep1.set w4 g3 34 (.slice A4 n4 d4)
  have hn4 : n4 = n := by have := ho4.len; rw [bv_len] at this; rw [← this]; exact HL.out.1
  subst hn4
  have hw34 : g3 < w4.heap.size := Nat.lt_of_lt_of_le hg33 hb4.size
  have hg14 : g1 < w4.heap.size := Nat.lt_trans hg13 hw34
  have hr14 := dg.range_keep (dg.range_below H3.out.2.2.2.1 hb4 (Nat.lt_trans hg13 hg33)) hk4 hg14 (by omega)
  have ho4k : Ow (w4.setCell ⟨g3, 34, none⟩ (.slice A4 n4 d4)) w3.heap.size 5 A4 n4 d4 (bv l) := by
    refine Mem.Ow.kept (row := some g3) ho4 ⟨hk4.os, hk4.tape, hk4.output, hk4.size, fun k hlt hn => hk4.block k hlt (fun e => hn (by rw [e]))⟩ ?_
    cases hA : blk A4 with
    | none => exact Or.inl rfl
    | some a => exact Or.inr (fun e => by have := (ho4.blk_lt a hA).1; injection e with e; omega)
  have hrl4 : Rd (w4.setCell ⟨g3, 34, none⟩ (.slice A4 n4 d4)) g1 A n4 (bv l) := by
    have h1 := H3.out.2.2.2.2.below hb4 (Nat.le_of_lt (Nat.lt_trans hg13 hg33))
    exact hk4.rd h1 (Nat.le_of_lt hg14) (fun hp a ha => by obtain ⟨b0, off, e, hl0, _⟩ := h1.addr hp; rw [e] at ha; injection ha with ha; subst ha; simp only; omega)
  have hb04 : Below g1 w (w4.setCell ⟨g3, 34, none⟩ (.slice A4 n4 d4)) := by
    have e1 : Below g1 w w4 := (hb.trans (H3.out.2.2.1.mono (Nat.le_of_lt hg13))).trans (hb4.mono (Nat.le_of_lt (Nat.lt_trans hg13 hg33)))
    exact hk4.below e1 (Nat.le_of_lt hg14) (Nat.le_of_lt hg13)
  obtain ⟨w5, hw5⟩ : ∃ z, w4.setCell ⟨g3, 34, none⟩ (.slice A4 n4 d4) = z := ⟨_, rfl⟩
  rw [hw5] at hrs4 hk4 hr14 ho4k hrl4 hb04 ⊢
  have hg35 : g3 < w5.heap.size := Nat.lt_of_lt_of_le hw34 hk4.size
  have hg15 : g1 < w5.heap.size := Nat.lt_trans hg13 hg35
  have c345 : w5.cell? ⟨g1, 34, none⟩ = some (.slice A n4 c) := by have := hr14 34 _ (by rw [← HL.out.2.2]; exact recL_34 hd); rwa [Nat.zero_add] at this
  have c335 : w5.cell? ⟨g3, 34, none⟩ = some (.slice A4 n4 d4) := by have := hrs4 34 _ (recL_34 hd); rwa [Nat.zero_add] at this
  have hop := open_any K S d hd A4 n4 d4 _ l w5 ho4k.rd (Nat.le_refl _) (by omega) hS (HT.out.below (by rw [HG.out]; exact hb04))
  have hrop := fun (y : World) (hy : Below w5.heap.size w5 y) => refOpen_any K S d hd A n4 c g1 l y (hrl4.below hy (Nat.le_of_lt hg15)) (Nat.le_trans (Nat.le_of_lt hg15) hy.size) hc (by omega) hS
  rw [HL.out.2.2] at hrop
  simp only [HRA.out] at hrop
  obtain ⟨q1, hq1⟩ : ∃ z, (openR K S d l).1 = z := ⟨_, rfl⟩
  obtain ⟨q2, hq2⟩ : ∃ z, (openR K S d l).2 = z := ⟨_, rfl⟩
  unfold MadeE at hop hrop
  rw [hq1, hq2] at hop
  simp only [hq1, hq2] at hrop
  have hinf4 : (Tryd.prog.info? 26).map (·.size) = some (recL K S d A4 n4 d4).length := by rw [recL_len hd]; exact info_rec
  obtain ⟨RL4, hRL4⟩ : ∃ z, recL K S d A4 n4 d4 = z := ⟨_, rfl⟩
  rw [hRL4] at hrs4 hop hinf4
  obtain ⟨RA4, hRA4⟩ : ∃ z, RL4.toArray = z := ⟨_, rfl⟩
  rw [hRA4] at hop
  have HOP := Lib.hid hop
  have HROP := Lib.hid hrop
  have HRA4 := Lib.hid hRA4
  have H5 := Lib.hid (And.intro hb04 (And.intro ho4k hrl4))
  clear hop hrop hRA4 hRL4 hb04 ho4k hrl4 hw5 ho4 hb4 y34 x34 v34 hk4 HCL hrW
  go_upto_region 6 with (first
    | (refine wpList_load_mid rfl 26 (.tmp 3) rfl g3 0 rfl RL4 _ hrs4 Tryd.underlying26 rfl hinf4 ?_; rw [HRA4.out])
    | (go_at_call 22; refine (HOP.out).mono ?_; rintro e w6 ⟨A6, n6, d6, rfl, ho6, hb6⟩)
    | fail)
  have hr16 := dg.range_below hr14 hb6 hg15
  have c346 := (hb6.cell (p := ⟨g1, 34, none⟩) hg15).trans c345
  have c336 := (hb6.cell (p := ⟨g3, 34, none⟩) hg35).trans c335
  have hrop6 := HROP.out w6 hb6
  have HROP6 := Lib.hid hrop6
  clear hrop6 HROP
  go_upto_region 7 with (first
    | (refine wpList_load_mid rfl 26 (.tmp 1) rfl g1 0 rfl RL _ hr16 Tryd.underlying26 rfl hinfR ?_; rw [HRA.out])
    | (go_at_call 23; refine (HROP6.out).mono ?_; rintro e w7 ⟨A7, n7, d7, rfl, ho7, hb7⟩)
    | fail)
  have hg36 : g3 < w6.heap.size := Nat.lt_of_lt_of_le hg35 hb6.size
  have hg16 : g1 < w6.heap.size := Nat.lt_trans hg13 hg36
  have c347 := (hb7.cell (p := ⟨g1, 34, none⟩) hg16).trans c346
  have c337 := (hb7.cell (p := ⟨g3, 34, none⟩) hg36).trans c336
  have hb57 : Below w5.heap.size w5 w7 := hb6.trans (hb7.mono hb6.size)
  have heq := oct.equal_any A6 A7 n6 d6 n7 d7 w7.heap.size q1 q1 w7 ((ho6.below hb7 (Nat.le_refl _)).rd) ho7.rd
  rw [decide_eq_true rfl] at heq
  have HEQ := Lib.hid heq
  have H7 := Lib.hid (And.intro hb57 ((ho6.below hb7 (Nat.le_refl _)) : Ow w7 w5.heap.size 5 A6 n6 d6 (bv q1)))
  clear heq hb57 ho6 ho7 hr16 hr14 hrs4 c346 c336 c345 c335
  go_upto_region 8 with (go_at_call 21; refine (HEQ.out).mono ?_; rintro e w8 ⟨rfl, rfl⟩)
  go_wp2_with fail
  have h0n : n6 ≤ 9223372036854775807 := by have := H7.out.2.cap; unfold maxLen at this; omega
  go_loopw [40] (fun i wr => ∃ (k : Nat) (xs : List Value), i = .int .i64 (k : Int) ∧ k ≤ n6 ∧ Hid (Ow wr w5.heap.size 5 A6 n6 d6 xs ∧ (∀ v ∈ xs, ∃ z, v = .int .u8 z) ∧ Below w5.heap.size w7 wr)) (fun i _ => n6 - (intOf i).toNat)
  case atStart => exact ⟨0, bv q1, rfl, Nat.zero_le _, Lib.hid ⟨H7.out.2, fun v hv => by obtain ⟨b, _, rfl⟩ := List.mem_map.1 hv; exact ⟨_, rfl⟩, Below.refl _ _⟩⟩
  case round =>
    obtain ⟨k, xs, rfl, hk, HQ⟩ := hrel
    by_cases hkn : k < n6
    · have hki : (k : Int) < (n6 : Int) := by omega
      obtain ⟨gb, rfl, hgb1, hgb2⟩ := HQ.out.1.at0 (by omega)
      have hxl : k < xs.length := by rw [HQ.out.1.len]; exact hkn
      obtain ⟨z, hz⟩ := HQ.out.2.1 _ (List.getElem_mem hxl)
      have hs := fun u => HQ.out.1.set k u hkn
      have ck := (hs (.int .u8 0)).2.2.1
      have zk := (hs (.int .u8 0)).2.2.2
      rw [List.getElem?_eq_getElem hxl, hz] at ck
      have HSS := Lib.hid hs
      clear hs hz
      go_wp2_with fail
      have hmem : ∀ u : Int, ∀ v ∈ xs.set k (.int .u8 u), ∃ z, v = .int .u8 z := fun u v hv => by
        rcases List.mem_or_eq_of_mem_set hv with h | h
        · exact HQ.out.2.1 v h
        · exact ⟨u, h⟩
      have hw7r : w5.heap.size ≤ wr.heap.size := Nat.le_trans H7.out.1.size HQ.out.2.2.size
      exact ⟨⟨k + 1, _, by go_num, by omega, Lib.hid ⟨(HSS.out _).1, hmem _, (dg.Keep1.set wr gb k _).below HQ.out.2.2 hw7r hgb1⟩⟩, by simp [intOf]; omega⟩
    · obtain rfl : n6 = k := by omega
      have hkn2 : ¬ ((n6 : Nat) : Int) < (n6 : Int) := by omega
      have d347 := (HQ.out.2.2.cell (p := ⟨g1, 34, none⟩) hg15).trans c347
      have d337 := (HQ.out.2.2.cell (p := ⟨g3, 34, none⟩) hg35).trans c337
      have hb5r : Below w5.heap.size w5 wr := H7.out.1.trans HQ.out.2.2
      have hr4 := (H5.out.2.1.rd.below hb5r (Nat.le_refl _)).more hb5r.size
      have hrA := (H5.out.2.2.below hb5r (Nat.le_of_lt hg15)).more (Nat.le_trans (Nat.le_of_lt hg15) hb5r.size)
      have heq2 := oct.equal_any A4 A n4 d4 n4 c wr.heap.size l l wr hr4 hrA
      rw [decide_eq_true rfl] at heq2
      have HEQ2 := Lib.hid heq2
      have hbr : Below g1 w wr := H5.out.1.trans (hb5r.mono (Nat.le_of_lt hg15))
      have hTr := HT.out.below (w' := wr) (by rw [HG.out]; exact hbr)
      have HTR := Lib.hid (And.intro hTr hbr)
      clear heq2 hr4 hrA hb5r hTr hbr c347 c337
      go_wp2_with (first
        | (go_at_call 21; refine (HEQ2.out).mono ?_; rintro e w9 ⟨rfl, rfl⟩)
        | (go_at_call 12; refine (rc.awake_any _ HTR.out.1).mono ?_; rintro e w10 ⟨rfl, hb10⟩)
        | fail)
      go_ret
      exact ⟨rfl, HTR.out.2.trans (hb10.mono (by rw [← HG.out]; exact HTR.out.2.size))⟩
end Go.Proofs.YtmdaglcpnakjhaaDoor.recordOpensDone
namespace Go.Proofs.YtmdaglcpnakjhaaDoor.recordOpensDone
open Go.ChangeShapes Go.WideShapes Go.ChangeAt Go.RowKit Mem OM LM DM dg rc
set_option linter.unusedVariables false
set_option maxRecDepth 100000
theorem contract (H : Type) (enc : TypeId × Value → H) (W : World) (base : Nat) (args : Array Value) (ds gs : List (DataW H)) (before : List MemPlace)
    (hval : ∀ (j : Nat) t v, Tryd.f5.params[j]? = some t → args[j]? = some v → Value.okWide Tryd.prog W .any base t v)
    (hW : DataW.Whole enc Tryd.prog Tryd.f5.params.toList Rows.recordOpensSpec.vars false W args.toList ds gs before) (hL : laidMetH Tryd.prog Rows.recordOpensRow.laid W) :
    Calls Tryd.prog 5 args W fun e W' => ∃ v, e = .returned v ∧ Rows.recordOpensSpec.post enc Tryd.prog Tryd.f5 false true false false W args v W' := by
  have hW' := hW
  have hT : Tab W := table rfl hL
  obtain ⟨p, q, hA0, hV, rfl, hfz, hnd⟩ := hW
  have hA : DataW.TrodAll enc Tryd.prog W 0 (fun _ => true) true Tryd.f5.params.toList args.toList ds p := hA0
  rw [Tryd.params5] at hA hval
  obtain ⟨v0, vs0, d0, ds0, p0, q0, hargs, rfl, rfl, h0, r0⟩ := trodAll_cons hA
  obtain ⟨rfl, rfl, rfl⟩ := trodAll_nil r0
  obtain rfl : args = #[v0] := by cases args; simp_all
  obtain ⟨rfl, rfl⟩ := trodVars_none hV
  have k0 := h0
  have lt0 : ∀ x ∈ p0, x.block < W.heap.size := by obtain ⟨m, hm⟩ := k0; exact DataW.trod_lt m _ _ _ hm
  obtain ⟨K0, S0, d0x, l0, A0, n0, c0, rfl, hd0, w0, m0, b0, hK0, hS0⟩ := open_rec (hval 0 26 v0 rfl rfl) h0
  clear hA0 hval
  refine (walk K0 S0 d0x l0 A0 n0 c0 W hT hd0 w0 m0 b0 hK0 hS0).mono fun e W' ⟨he, bel⟩ => ?_
  subst he
  exact ⟨_, rfl, _, _, _, [], _, [], hW', trodAll_mk1 (shut_bool Tryd.underlying4 _), (trodAll_cons_mk (Below.trod laidOut (by kernel_rfl) (of_decide_eq_true (by kernel_rfl)) k0 bel lt0) trodAll_mk0), rfl, bel.frame _, fun h => by cases h⟩

theorem laid_met (os : Os) : laidMet Tryd.prog Rows.recordOpensRow.laid ((laidWorld os).forCall (fun _ _ => 0) ⟨#[], #[.agg recZ.toArray], []⟩).memory :=
  laidMet_of_run' 8 (by kernel_rfl) (by kernel_rfl)
theorem reads (os : Os) {H : Type} (enc : TypeId × Value → H) : ∃ places, DataW.whole enc Tryd.prog ((laidWorld os).forCall (fun _ _ => 0) ⟨#[], #[.agg recZ.toArray], []⟩).memory Tryd.f5.params.toList Rows.recordOpensSpec.vars false (#[.agg recZ.toArray] : Array Value).toList 8 = some ([.agg [.lit (.int .i64 0), .lit (.int .i64 0), .agg (List.replicate 32 (.lit (.int .u8 0))), .nil]], [], places) :=
  ⟨[], by kernel_rfl⟩
set_option maxRecDepth 100000 in
theorem lifted (os : Os) (started : os.Started) (H : Type) (enc : TypeId × Value → H) (F : Stop.Interp) :
    ReturnsInHanded {} Tryd.checked os 5 .any ((OpenSpec.ofChange Rows.recordOpensSpec).preRow enc Tryd.prog Tryd.f5 Rows.recordOpensRow.domain false Rows.recordOpensRow.laid) (((OpenSpec.ofChange Rows.recordOpensSpec).at F).post enc Tryd.prog Tryd.f5 false true false false) := by
  obtain ⟨places, hx⟩ := reads os enc
  refine returnsInHanded_of_row (C := Tryd.checked) (s := OpenSpec.ofChange Rows.recordOpensSpec) own started (by kernel_rfl) Tryd.func5
    (witness_row_at (enc := enc) (C := Tryd.checked) false (laidWorld os) #[.agg recZ.toArray] rfl (by kernel_rfl) (by kernel_rfl) (by kernel_rfl)
      (OpenSpec.preRow_of_cond 8 hx (by kernel_rfl) (fun k hk => by cases hk) (by kernel_rfl) (laid_met os))) ?_
  intro W base args ds gs before hval hW _ _ _ hL _ _
  exact contract H enc W base args ds gs before hval hW hL
theorem said : Rows.RecordOpensSaid :=
  OpenClaim.holds_of_cond 5 Tryd.f5 rfl rfl rfl rfl rfl rfl rfl ⟨rfl, rfl, rfl, rfl, rfl⟩ rfl rfl rfl rfl rfl (by kernel_rfl) Tryd.func5 (by kernel_rfl)
    (of_decide_eq_true (by kernel_rfl)) (by unfold Func.isWrapper; first | (rw [if_pos (by decide +kernel)]; kernel_rfl) | (rw [if_neg (by decide +kernel)]; exact ⟨rfl, rfl⟩))
    (fun os started H enc _ F => by rw [OpenClaim.pre_eq_preRow]; exact lifted os started H enc F)
theorem plain (f : FuncId) (fn : Func) (hf : Tryd.pinned.checked.prog.funcNamed "flume/flumelaw10.RecordOpens" = some f) (hfn : Tryd.pinned.checked.prog.funcs[f]? = some fn) :
    false = Tryd.pinned.checked.prog.looks [] ∧ ∀ (j : Nat) t, fn.params[j]? = some t → Tryd.pinned.checked.prog.wantsStandIn t = false := by
  obtain rfl : f = 5 := Option.some.inj ((show Tryd.prog.funcNamed "flume/flumelaw10.RecordOpens" = some 5 by kernel_rfl).symm.trans hf) |>.symm
  obtain rfl : fn = Tryd.f5 := (Option.some.inj (Tryd.func5.symm.trans hfn)).symm
  refine ⟨by kernel_rfl, fun j t ht => ?_⟩
  rw [Tryd.params5] at ht
  have hm : t ∈ [26] := by simpa using Array.mem_of_getElem? ht
  have hall : ([26].all fun u => !Tryd.prog.wantsStandIn u) = true := by kernel_rfl
  exact (show Tryd.prog.wantsStandIn t = false by simpa using List.all_eq_true.1 hall t hm)
/-- the given statement -/
theorem proved : Rows.RecordOpensCardSaid :=
  Claim7.holds_tied_plain_at .later [] _ _ _ _ said (fun _ h => by cases h) (by kernel_rfl) (fun _ h => by cases h) recordOpens_row_tie rfl ⟨rfl, rfl⟩ (by kernel_rfl) rfl plain (by kernel_rfl)
#print axioms proved
end Go.Proofs.YtmdaglcpnakjhaaDoor.recordOpensDone
