/- RecordPuts: for every input the law answers true and leaves its arguments as they were; the table that the program lays is tied to its text. -/
import Derived.Test.YtbcgnacfhpahkaaDoorRcZ
namespace Go.Proofs.YtbcgnacfhpahkaaDoor.recordPutsDone
open Go.RowKit Mem OM LM DM dg rc
set_option maxRecDepth 20000
set_option linter.unusedSimpArgs false
attribute [local go_sem] Oper.semAt_some
set_option maxHeartbeats 8000000 in
theorem walk (N F P D I K S : Int) (d l : List UInt8) (A : Option Addr) (n c : Nat) (w : World) (hT : Tab w) (hd : d.length = 32) (hr : Rd w w.heap.size A n (bv l)) (hc : n ≤ c) (hn : n ≤ 9223372036854775807) (hK : -9223372036854775808 ≤ K ∧ K ≤ 9223372036854775807) (hS : -9223372036854775808 ≤ S ∧ S ≤ 9223372036854775807)
    (hN : -9223372036854775808 ≤ N ∧ N ≤ 9223372036854775807) (hF : -9223372036854775808 ≤ F ∧ F ≤ 9223372036854775807) (hP : -9223372036854775808 ≤ P ∧ P ≤ 9223372036854775807) (hD : -9223372036854775808 ≤ D ∧ D ≤ 9223372036854775807) (hI : -9223372036854775808 ≤ I ∧ I ≤ 9223372036854775807) :
    Calls Tryd.prog 6 #[.agg (noteL N F P D I K S d A n c).toArray] w fun e w' => e = .returned (.bool true) ∧ Below w.heap.size w w' := by
  have hrg := dg.range_new w (noteL N F P D I K S d A n c) 28
  have hb : Below w.heap.size w (w.alloc (.cells (noteL N F P D I K S d A n c).toArray 28)) := (Below.refl _ _).alloc (Nat.le_refl _) _
  have hlt : w.heap.size < (w.alloc (.cells (noteL N F P D I K S d A n c).toArray 28)).heap.size := by simp
  have hinf : (Tryd.prog.info? 28).map (·.size) = some (noteL N F P D I K S d A n c).length := by rw [noteL_len hd]; kernel_rfl
  have hr5 := note_rec hrg
  have c39 := hr5 34 _ (recL_34 hd)
  rw [show 5 + 34 = 39 from rfl] at c39
  have hput := fun (y : World) (hy : Rd y y.heap.size A n (bv l)) (hq : n ≤ 1048576) => put_any N F P D I K S d hd A n c _ l y hy (Nat.le_refl _) hq hc hN hK hS (v0_range hF hP hD hI)
  have hrput := fun (y : World) (hy : Rd y y.heap.size A n (bv l)) (hq : n ≤ 1048576) => refPut_any N F P D I K S d hd A n c _ l y hy (Nat.le_refl _) hq hN hK hS (numL_range hF hP hD hI)
  unfold MadeE at hput hrput
  obtain ⟨q1, hq1⟩ : ∃ z, (putR N F P D I K S d l).1 = z := ⟨_, rfl⟩
  obtain ⟨q2, hq2⟩ : ∃ z, (putR N F P D I K S d l).2 = z := ⟨_, rfl⟩
  simp only [hq1, hq2] at hput hrput
  obtain ⟨NL, hNL⟩ : ∃ z, noteL N F P D I K S d A n c = z := ⟨_, rfl⟩
  rw [hNL] at hrg hb hlt hinf c39 ⊢
  simp only [hNL] at hput hrput
  obtain ⟨NA, hNA⟩ : ∃ z, NL.toArray = z := ⟨_, rfl⟩
  rw [hNA] at hrg hb hlt c39 ⊢
  simp only [hNA] at hput hrput
  obtain ⟨W, hW⟩ : ∃ z, w.alloc (.cells NA 28) = z := ⟨_, rfl⟩
  rw [hW] at hrg hb hlt c39
  obtain ⟨g1, hg1e⟩ : ∃ z, w.heap.size = z := ⟨_, rfl⟩
  have HG := Lib.hid hg1e
  have HT := Lib.hid hT
  have HR := Lib.hid hr
  have HNA := Lib.hid hNA
  have HPUT := Lib.hid hput
  have HRPUT := Lib.hid hrput
  clear hT hr hNL hNA hput hrput hr5 hq1 hq2
  by_cases hbig : 4096 < n
  · have h1i : (4096 : Int) < n := by omega
    rw [hg1e] at hrg hb hlt c39 ⊢
    go_enter Tryd.func6, Tryd.ntmps6
    go_upto_region 1 with fail
    try rw [hW]
    try rw [hg1e]
    go_wp2_with (go_at_call 12; refine (rc.awake_any _ (HT.out.below (by rw [HG.out]; exact hb))).mono ?_; rintro e w1 ⟨rfl, hb1⟩)
    go_ret
    exact ⟨rfl, hb.trans (hb1.mono (Nat.le_of_lt hlt))⟩
  have hbi : ¬ (4096 : Int) < n := by omega
  have hn1 : n ≤ 1048576 := by omega
  have hrW := HR.out.below (w' := W) hb (Nat.le_refl _)
  have hput := HPUT.out W (hrW.more hb.size) hn1
  rw [hg1e] at hrg hb hlt c39 hrW ⊢
  have HP2 := Lib.hid hput
  clear hput HPUT
  go_enter Tryd.func6, Tryd.ntmps6
  go_upto_region 1 with fail
  try rw [hW]
  try rw [hg1e]
  go_upto_region 4 with (first
    | (refine wpList_load_mid rfl 28 (.tmp 1) rfl g1 0 rfl NL _ hrg Tryd.underlying28 rfl hinf ?_; rw [HNA.out])
    | (go_at_call 24; refine (HP2.out).mono ?_; rintro e w6 ⟨A6, n6, d6, rfl, ho6, hb6⟩)
    | fail)
  have hrg6 := dg.range_below hrg hb6 hlt
  have hb06 : Below g1 w w6 := hb.trans (hb6.mono (Nat.le_of_lt hlt))
  have hlt6 : g1 < w6.heap.size := Nat.lt_of_lt_of_le hlt hb6.size
  have hr6 := hrW.below hb6 (Nat.le_of_lt hlt)
  have HP3 := Lib.hid (HRPUT.out w6 (hr6.more (Nat.le_of_lt hlt6)) hn1)
  clear HRPUT hr6 hrW hrg
  go_upto_region 5 with (first
    | (refine wpList_load_mid rfl 28 (.tmp 1) rfl g1 0 rfl NL _ hrg6 Tryd.underlying28 rfl hinf ?_; rw [HNA.out])
    | (go_at_call 25; refine (HP3.out).mono ?_; rintro e w7 ⟨A7, n7, d7, rfl, ho7, hb7⟩)
    | fail)
  have hb07 : Below g1 w w7 := hb06.trans (hb7.mono (Nat.le_of_lt hlt6))
  have heq := oct.equal_any A6 A7 n6 d6 n7 d7 w7.heap.size q1 q1 w7 ((ho6.below hb7 (Nat.le_refl _)).rd) ho7.rd
  rw [decide_eq_true rfl] at heq
  have HEQ := Lib.hid heq
  have hT7 := HT.out.below (w' := w7) (by rw [HG.out]; exact hb07)
  have H7 := Lib.hid (And.intro hT7 hb07)
  clear heq hT7 ho6 ho7 hrg6 hb06 hb6 hb7 hb07
  go_wp2_with (first
    | (go_at_call 21; refine (HEQ.out).mono ?_; rintro e w8 ⟨rfl, rfl⟩)
    | (go_at_call 12; refine (rc.awake_any _ H7.out.1).mono ?_; rintro e w10 ⟨rfl, hb10⟩)
    | fail)
  go_ret
  exact ⟨rfl, H7.out.2.trans (hb10.mono (by rw [← HG.out]; exact H7.out.2.size))⟩
end Go.Proofs.YtbcgnacfhpahkaaDoor.recordPutsDone
namespace Go.Proofs.YtbcgnacfhpahkaaDoor.recordPutsDone
open Go.ChangeShapes Go.WideShapes Go.ChangeAt Go.RowKit Mem OM LM DM dg rc
set_option linter.unusedVariables false
set_option maxRecDepth 100000
theorem contract (H : Type) (enc : TypeId × Value → H) (W : World) (base : Nat) (args : Array Value) (ds gs : List (DataW H)) (before : List MemPlace)
    (hval : ∀ (j : Nat) t v, Tryd.f6.params[j]? = some t → args[j]? = some v → Value.okWide Tryd.prog W .any base t v)
    (hW : DataW.Whole enc Tryd.prog Tryd.f6.params.toList Rows.recordPutsSpec.vars false W args.toList ds gs before) (hL : laidMetH Tryd.prog Rows.recordPutsRow.laid W) :
    Calls Tryd.prog 6 args W fun e W' => ∃ v, e = .returned v ∧ Rows.recordPutsSpec.post enc Tryd.prog Tryd.f6 false true false false W args v W' := by
  have hW' := hW
  have hT : Tab W := table rfl hL
  obtain ⟨p, q, hA0, hV, rfl, hfz, hnd⟩ := hW
  have hA : DataW.TrodAll enc Tryd.prog W 0 (fun _ => true) true Tryd.f6.params.toList args.toList ds p := hA0
  rw [Tryd.params6] at hA hval
  obtain ⟨v0, vs0, d0, ds0, p0, q0, hargs, rfl, rfl, h0, r0⟩ := trodAll_cons hA
  obtain ⟨rfl, rfl, rfl⟩ := trodAll_nil r0
  obtain rfl : args = #[v0] := by cases args; simp_all
  obtain ⟨rfl, rfl⟩ := trodVars_none hV
  have k0 := h0
  have lt0 : ∀ x ∈ p0, x.block < W.heap.size := by obtain ⟨m, hm⟩ := k0; exact DataW.trod_lt m _ _ _ hm
  obtain ⟨N0, F0, P0, D0, I0, K0, S0, d0x, l0, A0, n0, c0, rfl, hd0, w0, m0, b0, hK0, hS0, hN0, hF0, hP0, hD0, hI0⟩ := open_note (hval 0 28 v0 rfl rfl) h0
  clear hA0 hval
  refine (walk N0 F0 P0 D0 I0 K0 S0 d0x l0 A0 n0 c0 W hT hd0 w0 m0 b0 hK0 hS0 hN0 hF0 hP0 hD0 hI0).mono fun e W' ⟨he, bel⟩ => ?_
  subst he
  exact ⟨_, rfl, _, _, _, [], _, [], hW', trodAll_mk1 (shut_bool Tryd.underlying4 _), (trodAll_cons_mk (Below.trod laidOut (by kernel_rfl) (of_decide_eq_true (by kernel_rfl)) k0 bel lt0) trodAll_mk0), rfl, bel.frame _, fun h => by cases h⟩

theorem laid_met (os : Os) : laidMet Tryd.prog Rows.recordPutsRow.laid ((laidWorld os).forCall (fun _ _ => 0) ⟨#[], #[.agg (noteL 0 0 0 0 0 0 0 z32 none 0 0).toArray], []⟩).memory :=
  laidMet_of_run' 8 (by kernel_rfl) (by kernel_rfl)
theorem reads (os : Os) {H : Type} (enc : TypeId × Value → H) : ∃ places, DataW.whole enc Tryd.prog ((laidWorld os).forCall (fun _ _ => 0) ⟨#[], #[.agg (noteL 0 0 0 0 0 0 0 z32 none 0 0).toArray], []⟩).memory Tryd.f6.params.toList Rows.recordPutsSpec.vars false (#[.agg (noteL 0 0 0 0 0 0 0 z32 none 0 0).toArray] : Array Value).toList 8 = some ([.agg [.lit (.int .i64 0), .lit (.int .i64 0), .lit (.int .i64 0), .lit (.int .i64 0), .lit (.int .i64 0), .agg [.lit (.int .i64 0), .lit (.int .i64 0), .agg (List.replicate 32 (.lit (.int .u8 0))), .nil]]], [], places) :=
  ⟨[], by kernel_rfl⟩
set_option maxRecDepth 100000 in
theorem lifted (os : Os) (started : os.Started) (H : Type) (enc : TypeId × Value → H) (F : Stop.Interp) :
    ReturnsInHanded {} Tryd.checked os 6 .any ((OpenSpec.ofChange Rows.recordPutsSpec).preRow enc Tryd.prog Tryd.f6 Rows.recordPutsRow.domain false Rows.recordPutsRow.laid) (((OpenSpec.ofChange Rows.recordPutsSpec).at F).post enc Tryd.prog Tryd.f6 false true false false) := by
  obtain ⟨places, hx⟩ := reads os enc
  refine returnsInHanded_of_row (C := Tryd.checked) (s := OpenSpec.ofChange Rows.recordPutsSpec) own started (by kernel_rfl) Tryd.func6
    (witness_row_at (enc := enc) (C := Tryd.checked) false (laidWorld os) #[.agg (noteL 0 0 0 0 0 0 0 z32 none 0 0).toArray] rfl (by kernel_rfl) (by kernel_rfl) (by kernel_rfl)
      (OpenSpec.preRow_of_cond 8 hx (by kernel_rfl) (fun k hk => by cases hk) (by kernel_rfl) (laid_met os))) ?_
  intro W base args ds gs before hval hW _ _ _ hL _ _
  exact contract H enc W base args ds gs before hval hW hL
theorem said : Rows.RecordPutsSaid :=
  OpenClaim.holds_of_cond 6 Tryd.f6 rfl rfl rfl rfl rfl rfl rfl ⟨rfl, rfl, rfl, rfl, rfl⟩ rfl rfl rfl rfl rfl (by kernel_rfl) Tryd.func6 (by kernel_rfl)
    (of_decide_eq_true (by kernel_rfl)) (by unfold Func.isWrapper; first | (rw [if_pos (by decide +kernel)]; kernel_rfl) | (rw [if_neg (by decide +kernel)]; exact ⟨rfl, rfl⟩))
    (fun os started H enc _ F => by rw [OpenClaim.pre_eq_preRow]; exact lifted os started H enc F)
theorem plain (f : FuncId) (fn : Func) (hf : Tryd.pinned.checked.prog.funcNamed "flume/flumelaw10.RecordPuts" = some f) (hfn : Tryd.pinned.checked.prog.funcs[f]? = some fn) :
    false = Tryd.pinned.checked.prog.looks [] ∧ ∀ (j : Nat) t, fn.params[j]? = some t → Tryd.pinned.checked.prog.wantsStandIn t = false := by
  obtain rfl : f = 6 := Option.some.inj ((show Tryd.prog.funcNamed "flume/flumelaw10.RecordPuts" = some 6 by kernel_rfl).symm.trans hf) |>.symm
  obtain rfl : fn = Tryd.f6 := (Option.some.inj (Tryd.func6.symm.trans hfn)).symm
  refine ⟨by kernel_rfl, fun j t ht => ?_⟩
  rw [Tryd.params6] at ht
  have hm : t ∈ [28] := by simpa using Array.mem_of_getElem? ht
  have hall : ([28].all fun u => !Tryd.prog.wantsStandIn u) = true := by kernel_rfl
  exact (show Tryd.prog.wantsStandIn t = false by simpa using List.all_eq_true.1 hall t hm)
/-- the given statement -/
theorem proved : Rows.RecordPutsCardSaid :=
  Claim7.holds_tied_plain_at .later [] _ _ _ _ said (fun _ h => by cases h) (by kernel_rfl) (fun _ h => by cases h) recordPuts_row_tie rfl ⟨rfl, rfl⟩ (by kernel_rfl) rfl plain (by kernel_rfl)
#print axioms proved
end Go.Proofs.YtbcgnacfhpahkaaDoor.recordPutsDone
