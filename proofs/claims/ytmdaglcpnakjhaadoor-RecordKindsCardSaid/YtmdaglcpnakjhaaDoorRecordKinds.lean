/- RecordKinds: for every input the law answers true and leaves its arguments as they were; the table that the program lays is tied to its text. -/
import Derived.Test.YtmdaglcpnakjhaaDoorRcO
namespace Go.Proofs.YtmdaglcpnakjhaaDoor.recordKindsDone
open Go.RowKit Mem OM LM DM dg rc
set_option maxRecDepth 20000
set_option linter.unusedSimpArgs false
attribute [local go_sem] Oper.semAt_some
set_option maxHeartbeats 4000000 in
theorem walk (A : Option Addr) (n c : Nat) (l : List UInt8) (w : World) (hT : Tab w) (hr : Rd w w.heap.size A n (bv l)) (hc : n ≤ c) (hn : n ≤ 9223372036854775807) :
    Calls Tryd.prog 11 #[.slice A n c] w fun e w' => e = .returned (.bool true) ∧ Below w.heap.size w w' := by
  have hl : l.length = n := by rw [← hr.len, bv_len]
  have HT := Lib.hid hT
  clear hT
  by_cases h1 : n < 1
  · have h1i : (n : Int) < 1 := by omega
    go_enter Tryd.func11, Tryd.ntmps11
    go_wp2_with (go_at_call 12; refine (rc.awake_any _ HT.out).mono ?_; rintro e w1 ⟨rfl, hb1⟩)
    go_ret
    exact ⟨rfl, hb1⟩
  by_cases h2 : 256 < n
  · have h1i : ¬ (n : Int) < 1 := by omega
    have h2i : (256 : Int) < n := by omega
    go_enter Tryd.func11, Tryd.ntmps11
    go_wp2_with (go_at_call 12; refine (rc.awake_any _ HT.out).mono ?_; rintro e w1 ⟨rfl, hb1⟩)
    go_ret
    exact ⟨rfl, hb1⟩
  have h1i : ¬ (n : Int) < 1 := by omega
  have h2i : ¬ (256 : Int) < n := by omega
  have hmk := make_new A n c _ l w hr (Nat.le_refl _) hc HT.out (by unfold fitsS; exact decide_eq_true (by omega))
  have HMK := Lib.hid (hmk.mono fun _ _ h => h.v)
  unfold MadeV at HMK
  have hd := digest_len l
  have HL := Lib.hid hl
  have HR := Lib.hid hr
  clear hmk hl hr
  go_enter Tryd.func11, Tryd.ntmps11
  go_upto_region 4 with (first
    | (go_at_call 18; refine (HMK.out).mono ?_; rintro e w1 ⟨RA, A1, n1, c1, rfl, HRA, ho1, hb1⟩; have hsz := va_size hd HRA; have hon := va_one HRA)
    | (refine wpList_store_mid rfl 26 (.tmp 3) (.tmp 18) rfl w1.heap.size 0 RA rfl rfl (by rw [hsz]; exact rec_zero_there w1) (by rw [hsz]; exact info_rec) hon ?_)
    | fail)
  show Code.wp _ _ _ _ ((w1.alloc (.cells recZ.toArray 26)).setCells w1.heap.size 0 RA.toList)
  have hst := rec_stored (K := mkK l) (S := (n : Nat)) (A := A1) (n := n1) (c := c1) hd w1
  have hRL : RA.toList = recL (mkK l) (n : Nat) (digest l) A1 n1 c1 := by rw [HRA.out]
  rw [hRL]
  obtain ⟨w2, hw2⟩ : ∃ z, (w1.alloc (.cells recZ.toArray 26)).setCells w1.heap.size 0 (recL (mkK l) (n : Nat) (digest l) A1 n1 c1) = z := ⟨_, rfl⟩
  rw [hw2] at hst ⊢
  have hb02 : Below w.heap.size w w2 := hb1.trans (hst.2.2.1.mono hb1.size)
  have c0 : w2.cell? ⟨w1.heap.size, 0, none⟩ = some (.int .i64 (mkK l)) := hst.1 0 _ rfl
  have c34 : w2.cell? ⟨w1.heap.size, 34, none⟩ = some (.slice A1 n1 c1) := hst.1 34 _ (recL_34 hd)
  have hrw := HR.out.below hb02 (Nat.le_refl _)
  have hsh := lz.shorten_any A n c _ l w2 hrw hb02.size hc (by omega)
  have HSH := Lib.hid hsh
  have hlt := hst.2.2.2
  have H2 := Lib.hid (And.intro hb02 (And.intro hrw (ho1.rd.below hst.2.2.1 (Nat.le_refl _))))
  clear hsh hrw hst hRL hw2 hb02 ho1 hb1 HMK HRA hsz hon
  go_upto_region 5 with (go_at_call 30; refine (HSH.out).mono ?_; rintro e w3 ⟨A3, n3, c3, rfl, ho3, hb3⟩)
  have c03 := (hb3.cell (p := ⟨w1.heap.size, 0, none⟩) hlt).trans c0
  have c343 := (hb3.cell (p := ⟨w1.heap.size, 34, none⟩) hlt).trans c34
  have hn3 : n3 = (shB l).length := by have := ho3.len; rw [bv_len] at this; exact this.symm
  have hb03 := H2.out.1.trans (hb3.mono H2.out.1.size)
  have hT3 := HT.out.below hb03
  have hr1 := (H2.out.2.2.below hb3 (Nat.le_of_lt hlt)).more (Nat.le_trans (Nat.le_of_lt hlt) hb3.size)
  by_cases hlt2 : (shB l).length < l.length
  · rw [mkD_lt l hlt2] at hr1
    rw [mkK_lt l hlt2] at c03
    have hii : (n3 : Int) < (n : Int) := by have := HL.out; omega
    have heq := oct.equal_any A1 A3 n1 c1 n3 c3 w3.heap.size (shB l) (shB l) w3 hr1 ho3.rd
    have HEQ := Lib.hid heq
    have H3 := Lib.hid (And.intro hb03 hT3)
    clear heq hb03 hT3 hr1 ho3 hb3 c0 c34 HSH hn3 hlt2
    go_wp2_with (first
      | (go_at_call 21; refine (HEQ.out).mono ?_; rintro e w4 ⟨rfl, rfl⟩)
      | (go_at_call 12; refine (rc.awake_any _ H3.out.2).mono ?_; rintro e w5 ⟨rfl, hb5⟩)
      | fail)

    go_ret
    exact ⟨rfl, H3.out.1.trans (hb5.mono H3.out.1.size)⟩
  · rw [mkD_ge l hlt2] at hr1
    rw [mkK_ge l hlt2] at c03
    have hii : ¬ (n3 : Int) < (n : Int) := by have := HL.out; omega
    have heq := oct.equal_any A1 A n1 c1 n c w3.heap.size l l w3 hr1 ((H2.out.2.1.below hb3 (Nat.le_trans H2.out.1.size (Nat.le_refl _))).more hb03.size)
    have HEQ := Lib.hid heq
    have H3 := Lib.hid (And.intro hb03 hT3)
    clear heq hb03 hT3 hr1 ho3 hb3 c0 c34 HSH hn3 hlt2
    go_wp2_with (first
      | (go_at_call 21; refine (HEQ.out).mono ?_; rintro e w4 ⟨rfl, rfl⟩)
      | (go_at_call 12; refine (rc.awake_any _ H3.out.2).mono ?_; rintro e w5 ⟨rfl, hb5⟩)
      | fail)
    go_ret
    exact ⟨rfl, H3.out.1.trans (hb5.mono H3.out.1.size)⟩
end Go.Proofs.YtmdaglcpnakjhaaDoor.recordKindsDone
namespace Go.Proofs.YtmdaglcpnakjhaaDoor.recordKindsDone
open Go.ChangeShapes Go.WideShapes Go.ChangeAt Go.RowKit Mem OM LM DM dg rc
set_option linter.unusedVariables false
set_option maxRecDepth 100000
theorem contract (H : Type) (enc : TypeId × Value → H) (W : World) (base : Nat) (args : Array Value) (ds gs : List (DataW H)) (before : List MemPlace)
    (hval : ∀ (j : Nat) t v, Tryd.f11.params[j]? = some t → args[j]? = some v → Value.okWide Tryd.prog W .any base t v)
    (hW : DataW.Whole enc Tryd.prog Tryd.f11.params.toList Rows.recordKindsSpec.vars false W args.toList ds gs before) (hL : laidMetH Tryd.prog Rows.recordKindsRow.laid W) :
    Calls Tryd.prog 11 args W fun e W' => ∃ v, e = .returned v ∧ Rows.recordKindsSpec.post enc Tryd.prog Tryd.f11 false true false false W args v W' := by
  have hW' := hW
  have hT : Tab W := table rfl hL
  obtain ⟨p, q, hA0, hV, rfl, hfz, hnd⟩ := hW
  have hA : DataW.TrodAll enc Tryd.prog W 0 (fun _ => true) true Tryd.f11.params.toList args.toList ds p := hA0
  rw [Tryd.params11] at hA hval
  obtain ⟨v0, vs0, d0, ds0, p0, q0, hargs, rfl, rfl, h0, r0⟩ := trodAll_cons hA
  obtain ⟨rfl, rfl, rfl⟩ := trodAll_nil r0
  obtain rfl : args = #[v0] := by cases args; simp_all
  obtain ⟨rfl, rfl⟩ := trodVars_none hV
  obtain ⟨a0, n0, c0, rfl⟩ := okWide_slice Tryd.underlying24 (hval 0 24 v0 rfl rfl)
  have k0 := h0
  have lt0 : ∀ x ∈ p0, x.block < W.heap.size := by obtain ⟨m, hm⟩ := k0; exact DataW.trod_lt m _ _ _ hm
  obtain ⟨l0, w0, m0, b0⟩ : ∃ l : List UInt8, Rd W W.heap.size a0 n0 (bv l) ∧ n0 ≤ c0 ∧ n0 ≤ 9223372036854775807 := by
    obtain ⟨fuel, hf⟩ := h0
    rcases open_ints Tryd.underlying24 Tryd.underlying5 (by kernel_rfl) hf with ⟨hcs, _⟩ | ⟨x, l, c, zs, hcs, _, hl, hm, hz, _, hcell, hwz⟩
    · simp [Value.cells] at hcs
      obtain ⟨rfl, rfl, rfl⟩ := hcs
      exact ⟨[], Rd.nil _ _ _, Nat.le_refl _, by omega⟩
    · simp [Value.cells] at hcs
      obtain ⟨rfl, rfl, rfl⟩ := hcs
      unfold maxLen at hm
      obtain ⟨l, hl2⟩ := rd_bytes hl (by simpa using hz) hcell hwz
      exact ⟨l, hl2, hl, by omega⟩
  clear hA0 hval
  refine (walk a0 n0 c0 l0 W hT w0 m0 b0).mono fun e W' ⟨he, bel⟩ => ?_
  subst he
  exact ⟨_, rfl, _, _, _, [], _, [], hW', trodAll_mk1 (shut_bool Tryd.underlying4 _), (trodAll_cons_mk (Below.trod laidOut (by kernel_rfl) (of_decide_eq_true (by kernel_rfl)) k0 bel lt0) trodAll_mk0), rfl, bel.frame _, fun h => by cases h⟩

theorem laid_met (os : Os) : laidMet Tryd.prog Rows.recordKindsRow.laid ((laidWorld os).forCall (fun _ _ => 0) ⟨#[], #[.slice none 0 0], []⟩).memory :=
  laidMet_of_run' 8 (by kernel_rfl) (by kernel_rfl)
theorem reads (os : Os) {H : Type} (enc : TypeId × Value → H) : ∃ places, DataW.whole enc Tryd.prog ((laidWorld os).forCall (fun _ _ => 0) ⟨#[], #[.slice none 0 0], []⟩).memory Tryd.f11.params.toList Rows.recordKindsSpec.vars false (#[.slice none 0 0] : Array Value).toList 8 = some ([.nil], [], places) :=
  ⟨[], by kernel_rfl⟩
set_option maxRecDepth 100000 in
theorem lifted (os : Os) (started : os.Started) (H : Type) (enc : TypeId × Value → H) (F : Stop.Interp) :
    ReturnsInHanded {} Tryd.checked os 11 .any ((OpenSpec.ofChange Rows.recordKindsSpec).preRow enc Tryd.prog Tryd.f11 Rows.recordKindsRow.domain false Rows.recordKindsRow.laid) (((OpenSpec.ofChange Rows.recordKindsSpec).at F).post enc Tryd.prog Tryd.f11 false true false false) := by
  obtain ⟨places, hx⟩ := reads os enc
  refine returnsInHanded_of_row (C := Tryd.checked) (s := OpenSpec.ofChange Rows.recordKindsSpec) own started (by kernel_rfl) Tryd.func11
    (witness_row_at (enc := enc) (C := Tryd.checked) false (laidWorld os) #[.slice none 0 0] rfl (by kernel_rfl) (by kernel_rfl) (by kernel_rfl)
      (OpenSpec.preRow_of_cond 8 hx (by kernel_rfl) (fun k hk => by cases hk) (by kernel_rfl) (laid_met os))) ?_
  intro W base args ds gs before hval hW _ _ _ hL _ _
  exact contract H enc W base args ds gs before hval hW hL
theorem said : Rows.RecordKindsSaid :=
  OpenClaim.holds_of_cond 11 Tryd.f11 rfl rfl rfl rfl rfl rfl rfl ⟨rfl, rfl, rfl, rfl, rfl⟩ rfl rfl rfl rfl rfl (by kernel_rfl) Tryd.func11 (by kernel_rfl)
    (of_decide_eq_true (by kernel_rfl)) (by unfold Func.isWrapper; first | (rw [if_pos (by decide +kernel)]; kernel_rfl) | (rw [if_neg (by decide +kernel)]; exact ⟨rfl, rfl⟩))
    (fun os started H enc _ F => by rw [OpenClaim.pre_eq_preRow]; exact lifted os started H enc F)
theorem plain (f : FuncId) (fn : Func) (hf : Tryd.pinned.checked.prog.funcNamed "flume/flumelaw10.RecordKinds" = some f) (hfn : Tryd.pinned.checked.prog.funcs[f]? = some fn) :
    false = Tryd.pinned.checked.prog.looks [] ∧ ∀ (j : Nat) t, fn.params[j]? = some t → Tryd.pinned.checked.prog.wantsStandIn t = false := by
  obtain rfl : f = 11 := Option.some.inj ((show Tryd.prog.funcNamed "flume/flumelaw10.RecordKinds" = some 11 by kernel_rfl).symm.trans hf) |>.symm
  obtain rfl : fn = Tryd.f11 := (Option.some.inj (Tryd.func11.symm.trans hfn)).symm
  refine ⟨by kernel_rfl, fun j t ht => ?_⟩
  rw [Tryd.params11] at ht
  have hm : t ∈ [24] := by simpa using Array.mem_of_getElem? ht
  have hall : ([24].all fun u => !Tryd.prog.wantsStandIn u) = true := by kernel_rfl
  exact (show Tryd.prog.wantsStandIn t = false by simpa using List.all_eq_true.1 hall t hm)
/-- the given statement -/
theorem proved : Rows.RecordKindsCardSaid :=
  Claim7.holds_tied_plain_at .later [] _ _ _ _ said (fun _ h => by cases h) (by kernel_rfl) (fun _ h => by cases h) recordKinds_row_tie rfl ⟨rfl, rfl⟩ (by kernel_rfl) rfl plain (by kernel_rfl)
#print axioms proved
end Go.Proofs.YtmdaglcpnakjhaaDoor.recordKindsDone
