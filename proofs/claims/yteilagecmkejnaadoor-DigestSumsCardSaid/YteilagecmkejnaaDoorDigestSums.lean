/- DigestSums: for every input the law answers true and leaves its arguments as they were; the table that the program lays is tied to its text. -/
import Derived.Test.YteilagecmkejnaaDoorDgY
namespace Go.Proofs.YteilagecmkejnaaDoor.digestSumsDone
open Go.RowKit Mem DM dg
set_option maxRecDepth 100000 in
set_option maxHeartbeats 4000000 in
theorem walk (A : Option Addr) (n c : Nat) (l : List UInt8) (w : World) (hT : Tab w) (hr : Rd w w.heap.size A n (bv l)) (hc : n ≤ c) (hn : n ≤ 9223372036854775807) :
    Calls Tryd.prog 3 #[.slice A n c] w fun e w' => e = .returned (.bool true) ∧ Below w.heap.size w w' := by
  have hl : l.length = n := by rw [← hr.len, bv_len]
  have HT := Lib.hid hT
  clear hT
  by_cases hbig : 8192 < n
  · have hbi : (8192 : Int) < n := by omega
    go_enter Tryd.func3, Tryd.ntmps3
    go_wp2_with (go_at_call 5; refine (awake_any _ HT.out).mono ?_; rintro e w1 ⟨rfl, hb1⟩)
    go_ret
    exact ⟨rfl, hb1⟩
  have hbi : ¬ (8192 : Int) < n := by omega
  have hcl := clone_any A n c _ l w hr (Nat.le_refl _) (by omega)
  unfold Made at hcl
  have HCL := Lib.hid hcl
  have HL := Lib.hid hl
  have HR := Lib.hid hr
  have hse := fun y => sum_eql (digest l) (digest l) (digest_len l) (digest_len l) y
  rw [decide_eq_true rfl] at hse
  have hro := fun (y : World) (hy : Below w.heap.size w y) => refOf_any A n c _ l y (hr.below hy (Nat.le_refl _)) hy.size (by omega)
  have hrq := fun (y : World) (hy : Below w.heap.size w y) => refQuick_any A n c _ l y (hr.below hy (Nat.le_refl _)) hy.size (by omega)
  have hdl := digest_len l
  obtain ⟨V, hV⟩ : ∃ V, (bv (digest l)).toArray = V := ⟨_, rfl⟩
  rw [hV] at hse
  simp only [hV] at hro hrq
  have HRO := Lib.hid hro
  have HRQ := Lib.hid hrq
  have HV := Lib.hid hV
  clear hcl hl hr hro hrq hV
  go_enter Tryd.func3, Tryd.ntmps3
  go_upto_region 4 with (go_at_call 6; refine (HCL.out).mono ?_; rintro e w2 ⟨A2, n2, c2, rfl, ho2, hb2⟩)
  have hn2 : n2 = n := by have := ho2.len; rw [bv_len] at this; rw [← this]; exact HL.out
  subst hn2
  have hp := Parts.one ho2.rd ho2.cap.1 (Nat.le_refl _) 22
  have hX : Below w2.heap.size w2 (w2.alloc (.cells #[.slice A2 n2 c2] 22)) := (Below.refl _ _).alloc (Nat.le_refl _) _
  have hof := of_any _ 1 1 _ _ _ (HT.out.below (hb2.trans (hX.mono hb2.size))) hp (by simp) (by omega) (by rw [tot_flat]; have := HL.out; simp; omega)
  rw [show [l].flatten = l by simp, HV.out] at hof
  have HOF := Lib.hid hof
  have H2 := Lib.hid (And.intro ho2 (And.intro hb2 hX))
  clear hof hp hX ho2 hb2
  go_upto_region 5 with (first
    | (go_at_call 7; with_reducible refine (HOF.out).mono ?_; rintro e w3 ⟨rfl, hb3⟩; have hb03 : Below w.heap.size w w3 := (H2.out.2.1.trans (H2.out.2.2.mono H2.out.2.1.size)).trans (hb3.mono (Nat.le_trans H2.out.2.1.size H2.out.2.2.size)); have hro3 := HRO.out w3 hb03)
    | (go_at_call 8; with_reducible refine (hro3).mono ?_; clear hro3; rintro e w4 ⟨rfl, hb4⟩; have hb04 : Below w.heap.size w w4 := hb03.trans (hb4.mono hb03.size); have hrq4 := HRQ.out w4 hb04)
    | (go_at_call 9; with_reducible refine (hrq4).mono ?_; clear hrq4; rintro e w5 ⟨rfl, hb5⟩; have hb05 : Below w.heap.size w w5 := hb04.trans (hb5.mono hb04.size); have hro5 := HRO.out w5 hb05)
    | (go_at_call 8; with_reducible refine (hro5).mono ?_; clear hro5; rintro e w6 ⟨rfl, hb6⟩; have hb06 : Below w.heap.size w w6 := hb05.trans (hb6.mono hb05.size))
    | (go_at_call 10; refine (sliceEqual_any A2 A n2 n2 c2 c w6.heap.size w6.heap.size l w6 ((H2.out.1.rd.below (H2.out.2.2.trans (((hb3.trans (hb4.mono hb3.size)).trans (hb5.mono (Nat.le_trans hb3.size hb4.size))).trans (hb6.mono (Nat.le_trans hb3.size (Nat.le_trans hb4.size hb5.size))) |>.mono H2.out.2.2.size)) (Nat.le_refl _)).more (Nat.le_trans H2.out.2.2.size (Nat.le_trans hb3.size (Nat.le_trans hb4.size (Nat.le_trans hb5.size hb6.size))))) ((HR.out.below hb06 (Nat.le_refl _)).more hb06.size) (by omega)).mono ?_; rintro e w7 ⟨rfl, q, rfl⟩; have hb07 : Below w.heap.size w (w6.drewN q) := ⟨hb06.os, hb06.tape, hb06.output, hb06.size, hb06.block⟩)
    | (go_at_call 5; refine (awake_any _ (HT.out.below hb07)).mono ?_; rintro e w8 ⟨rfl, hb8⟩)
    | fail)
  try go_wp2_with fail
  go_ret
  exact ⟨rfl, hb07.trans (hb8.mono hb07.size)⟩
end Go.Proofs.YteilagecmkejnaaDoor.digestSumsDone
namespace Go.Proofs.YteilagecmkejnaaDoor.digestSumsDone
open Go.ChangeShapes Go.WideShapes Go.ChangeAt Go.RowKit Mem DM dg
set_option linter.unusedVariables false
theorem contract (H : Type) (enc : TypeId × Value → H) (W : World) (base : Nat) (args : Array Value) (ds gs : List (DataW H)) (before : List MemPlace)
    (hval : ∀ (j : Nat) t v, Tryd.f3.params[j]? = some t → args[j]? = some v → Value.okWide Tryd.prog W .any base t v)
    (hW : DataW.Whole enc Tryd.prog Tryd.f3.params.toList Rows.digestSumsSpec.vars false W args.toList ds gs before) (hL : laidMetH Tryd.prog Rows.digestSumsRow.laid W) :
    Calls Tryd.prog 3 args W fun e W' => ∃ v, e = .returned v ∧ Rows.digestSumsSpec.post enc Tryd.prog Tryd.f3 false true false false W args v W' := by
  have hW' := hW
  have hT : Tab W := table rfl hL
  obtain ⟨p, q, hA0, hV, rfl, hfz, hnd⟩ := hW
  have hA : DataW.TrodAll enc Tryd.prog W 0 (fun _ => true) true Tryd.f3.params.toList args.toList ds p := hA0
  rw [Tryd.params3] at hA hval
  obtain ⟨v0, vs0, d0, ds0, p0, q0, hargs, rfl, rfl, h0, r0⟩ := trodAll_cons hA
  obtain ⟨rfl, rfl, rfl⟩ := trodAll_nil r0
  obtain rfl : args = #[v0] := by cases args; simp_all
  obtain ⟨rfl, rfl⟩ := trodVars_none hV
  obtain ⟨a0, n0, c0, rfl⟩ := okWide_slice Tryd.underlying22 (hval 0 22 v0 rfl rfl)
  have k0 := h0
  have lt0 : ∀ x ∈ p0, x.block < W.heap.size := by obtain ⟨m, hm⟩ := k0; exact DataW.trod_lt m _ _ _ hm
  obtain ⟨l0, w0, m0, b0⟩ : ∃ l : List UInt8, Rd W W.heap.size a0 n0 (bv l) ∧ n0 ≤ c0 ∧ n0 ≤ 9223372036854775807 := by
    obtain ⟨fuel, hf⟩ := h0
    rcases open_ints Tryd.underlying22 Tryd.underlying5 (by kernel_rfl) hf with ⟨hcs, _⟩ | ⟨x, l, c, zs, hcs, _, hl, hm, hz, _, hcell, hwz⟩
    · simp [Value.cells] at hcs
      obtain ⟨rfl, rfl, rfl⟩ := hcs
      exact ⟨[], Rd.nil _ _ _, Nat.le_refl _, by omega⟩
    · simp [Value.cells] at hcs
      obtain ⟨rfl, rfl, rfl⟩ := hcs
      unfold maxLen at hm
      obtain ⟨l, hl2⟩ := rd_bytes hl (by simpa using hz) hcell hwz
      exact ⟨l, hl2, hl, by omega⟩
  clear hA0 hval
  refine (walk a0 n0 c0 l0 W hT w0 m0 b0).mono fun e W' ⟨he, bel⟩ => ?_
  subst he
  exact ⟨_, rfl, _, _, _, [], _, [], hW', trodAll_mk1 (shut_bool Tryd.underlying4 _), (trodAll_cons_mk (Below.trod laidOut (by kernel_rfl) (of_decide_eq_true (by kernel_rfl)) k0 bel lt0) trodAll_mk0), rfl, bel.frame _, fun h => by cases h⟩

theorem laid_met (os : Os) : laidMet Tryd.prog Rows.digestSumsRow.laid ((laidWorld os).forCall (fun _ _ => 0) ⟨#[], #[.slice none 0 0], []⟩).memory :=
  laidMet_of_run' 8 (by kernel_rfl) (by kernel_rfl)
theorem reads (os : Os) {H : Type} (enc : TypeId × Value → H) : ∃ places, DataW.whole enc Tryd.prog ((laidWorld os).forCall (fun _ _ => 0) ⟨#[], #[.slice none 0 0], []⟩).memory Tryd.f3.params.toList Rows.digestSumsSpec.vars false (#[.slice none 0 0] : Array Value).toList 8 = some ([.nil], [], places) :=
  ⟨[], by kernel_rfl⟩
set_option maxRecDepth 100000 in
theorem lifted (os : Os) (started : os.Started) (H : Type) (enc : TypeId × Value → H) (F : Stop.Interp) :
    ReturnsInHanded {} Tryd.checked os 3 .any ((OpenSpec.ofChange Rows.digestSumsSpec).preRow enc Tryd.prog Tryd.f3 Rows.digestSumsRow.domain false Rows.digestSumsRow.laid) (((OpenSpec.ofChange Rows.digestSumsSpec).at F).post enc Tryd.prog Tryd.f3 false true false false) := by
  obtain ⟨places, hx⟩ := reads os enc
  refine returnsInHanded_of_row (C := Tryd.checked) (s := OpenSpec.ofChange Rows.digestSumsSpec) own started (by kernel_rfl) Tryd.func3
    (witness_row_at (enc := enc) (C := Tryd.checked) false (laidWorld os) #[.slice none 0 0] rfl (by kernel_rfl) (by kernel_rfl) (by kernel_rfl)
      (OpenSpec.preRow_of_cond 8 hx (by kernel_rfl) (fun k hk => by cases hk) (by kernel_rfl) (laid_met os))) ?_
  intro W base args ds gs before hval hW _ _ _ hL _ _
  exact contract H enc W base args ds gs before hval hW hL
theorem said : Rows.DigestSumsSaid :=
  OpenClaim.holds_of_cond 3 Tryd.f3 rfl rfl rfl rfl rfl rfl rfl ⟨rfl, rfl, rfl, rfl, rfl⟩ rfl rfl rfl rfl rfl (by kernel_rfl) Tryd.func3 (by kernel_rfl)
    (of_decide_eq_true (by kernel_rfl)) (by unfold Func.isWrapper; first | (rw [if_pos (by decide +kernel)]; kernel_rfl) | (rw [if_neg (by decide +kernel)]; exact ⟨rfl, rfl⟩))
    (fun os started H enc _ F => by rw [OpenClaim.pre_eq_preRow]; exact lifted os started H enc F)
theorem plain (f : FuncId) (fn : Func) (hf : Tryd.pinned.checked.prog.funcNamed "flume/flumelaw08.DigestSums" = some f) (hfn : Tryd.pinned.checked.prog.funcs[f]? = some fn) :
    false = Tryd.pinned.checked.prog.looks [] ∧ ∀ (j : Nat) t, fn.params[j]? = some t → Tryd.pinned.checked.prog.wantsStandIn t = false := by
  obtain rfl : f = 3 := Option.some.inj ((show Tryd.prog.funcNamed "flume/flumelaw08.DigestSums" = some 3 by kernel_rfl).symm.trans hf) |>.symm
  obtain rfl : fn = Tryd.f3 := (Option.some.inj (Tryd.func3.symm.trans hfn)).symm
  refine ⟨by kernel_rfl, fun j t ht => ?_⟩
  rw [Tryd.params3] at ht
  have hm : t ∈ [22] := by simpa using Array.mem_of_getElem? ht
  have hall : ([22].all fun u => !Tryd.prog.wantsStandIn u) = true := by kernel_rfl
  exact (show Tryd.prog.wantsStandIn t = false by simpa using List.all_eq_true.1 hall t hm)
/-- the given statement -/
theorem proved : Rows.DigestSumsCardSaid :=
  Claim7.holds_tied_plain_at .later [] _ _ _ _ said (fun _ h => by cases h) (by kernel_rfl) (fun _ h => by cases h) digestSums_row_tie rfl ⟨rfl, rfl⟩ (by kernel_rfl) rfl plain (by kernel_rfl)
#print axioms proved
end Go.Proofs.YteilagecmkejnaaDoor.digestSumsDone
