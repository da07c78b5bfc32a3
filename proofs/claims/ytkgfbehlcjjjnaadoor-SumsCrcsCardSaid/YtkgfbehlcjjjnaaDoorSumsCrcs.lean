/- SumsCrcs: for every input the law answers true and leaves its arguments as they were; the table that the program lays is tied to its text. -/
import Derived.Test.YtkgfbehlcjjjnaaDoorSumF
import Derived.Test.YtkgfbehlcjjjnaaDoorSumI
import Derived.Test.YtkgfbehlcjjjnaaDoorSumD
namespace Go.Proofs.YtkgfbehlcjjjnaaDoor.sumsCrcsDone
open Go.RowKit Mem SM lib CM sum
set_option maxHeartbeats 2000000 in
theorem walk (A : Option Addr) (n c : Nat) (ls : List (List UInt8)) (w : World) (ht : Tab w) (h : Parts w w.heap.size A n ls) (_hc : n ≤ c) (hn : n ≤ 9223372036854775807) (hx : ∀ l ∈ ls, l.length ≤ 9223372036854775807) :
    Calls Tryd.prog 8 #[.slice A n c] w fun e w' => e = .returned (.bool true) ∧ Below w.heap.size w w' := by
  have hpos := ht.pos
  have HT := Lib.hid ht
  have HX := Lib.hid hx
  clear ht hx
  go_enter Tryd.func8, Tryd.ntmps8
  go_wp2_with fail
  refine (light_any A n c _ ls w h HX.out hn).mono ?_
  rintro e w1 ⟨b, rfl, hlt, rfl⟩
  have HL := Lib.hid hlt
  clear hlt
  cases b with
  | false =>
    go_wp2_with fail
    refine (awake_any _ HT.out).mono ?_
    rintro e w3 ⟨rfl, hb3⟩
    go_wp2
    go_ret
    exact ⟨rfl, hb3⟩
  | true =>
    obtain ⟨hn1, htot⟩ := HL.out rfl
    go_wp2_with fail
    refine (concat_any A n c _ ls _ h (Nat.le_refl _) (by omega) (by omega)).mono ?_
    rintro e w2 ⟨A2, n2, c2, rfl, ho2, hb2⟩
    have hz2 := hb2.size
    have hn2 : n2 ≤ 65536 := by have := ho2.len; rw [bv_len, List.length_flatten] at this; have h2 : (ls.map List.length).sum = tot ls := rfl; omega
    obtain ⟨F, hF⟩ : ∃ F, ls.flatten = F := ⟨_, rfl⟩
    obtain ⟨v, hv⟩ : ∃ v, (crc F).toNat = v := ⟨_, rfl⟩
    rw [hF] at ho2
    have hFl : F.length = n2 := by have := ho2.len; rw [bv_len] at this; exact this
    have hc2 := ho2.cap.1
    have hp2 : Parts (w2.alloc (.cells #[.slice A2 n2 c2] 31)) (w2.heap.size + 1) (some ⟨w2.heap.size, 0, none⟩) 1 [F] := Parts.one ho2.rd hc2 (Nat.le_refl _) _
    have hb3 : Below w.heap.size w (w2.alloc (.cells #[.slice A2 n2 c2] 31)) := hb2.alloc hz2 _
    have hbb : ((v : Int) == (v : Int)) = true := by simp
    have HF := Lib.hid hF
    have HV := Lib.hid hv
    have HP2 := Lib.hid hp2
    have HFL := Lib.hid hFl
    clear hF hv hp2 hFl
    go_wp2_with fail
    refine (crc_any A n c w.heap.size ls _ (h.below hb2 (Nat.le_refl _)) (HT.out.below hb2 hpos) (by omega) (by omega)).mono ?_
    rintro e w3 ⟨rfl, rfl⟩
    rw [HF.out, HV.out]
    go_wp2_with fail
    refine (refCrc_any A2 n2 c2 w2.heap.size F _ ho2.rd (by omega)).mono ?_
    rintro e w4 ⟨rfl, rfl⟩
    rw [HV.out]
    go_wp2_with fail
    refine (crc_any _ _ _ _ [F] _ HP2.out (HT.out.below hb3 hpos) (by omega) (by simp [tot]; have := HFL.out; omega)).mono ?_
    rintro e w5 ⟨rfl, hw5⟩
    rw [hw5] at hb3
    rw [show [F].flatten = F from by simp, HV.out]
    clear hw5 HP2
    go_wp2_with fail
    refine (crc_any A n c w.heap.size ls _ (h.below hb3 (Nat.le_refl _)) (HT.out.below hb3 hpos) (by omega) (by omega)).mono ?_
    rintro e w6 ⟨rfl, rfl⟩
    rw [HF.out, HV.out]
    go_wp2_with fail
    refine (awake_any _ (HT.out.below hb3 hpos)).mono ?_
    rintro e w7 ⟨rfl, hb7⟩
    go_wp2
    go_ret
    exact ⟨rfl, hb3.trans (hb7.mono hb3.size)⟩
end Go.Proofs.YtkgfbehlcjjjnaaDoor.sumsCrcsDone
namespace Go.Proofs.YtkgfbehlcjjjnaaDoor.sumsCrcsDone
open Go.ChangeShapes Go.WideShapes Go.ChangeAt Go.RowKit Mem sum
set_option linter.unusedVariables false
theorem contract (H : Type) (enc : TypeId × Value → H) (W : World) (base : Nat) (args : Array Value) (ds gs : List (DataW H)) (before : List MemPlace)
    (hval : ∀ (j : Nat) t v, Tryd.f8.params[j]? = some t → args[j]? = some v → Value.okWide Tryd.prog W .any base t v)
    (hW : DataW.Whole enc Tryd.prog Tryd.f8.params.toList Rows.sumsCrcsSpec.vars false W args.toList ds gs before) (hL : laidMetH Tryd.prog Rows.sumsCrcsRow.laid W) :
    Calls Tryd.prog 8 args W fun e W' => ∃ v, e = .returned v ∧ Rows.sumsCrcsSpec.post enc Tryd.prog Tryd.f8 false true false false W args v W' := by
  have hW' := hW
  have hT : Tab W := table rfl hL
  obtain ⟨p, q, hA0, hV, rfl, hfz, hnd⟩ := hW
  have hA : DataW.TrodAll enc Tryd.prog W 0 (fun _ => true) true Tryd.f8.params.toList args.toList ds p := hA0
  rw [Tryd.params8] at hA hval
  obtain ⟨v0, vs0, d0, ds0, p0, q0, hargs, rfl, rfl, h0, r0⟩ := trodAll_cons hA
  obtain ⟨rfl, rfl, rfl⟩ := trodAll_nil r0
  obtain rfl : args = #[v0] := by cases args; simp_all
  obtain ⟨rfl, rfl⟩ := trodVars_none hV
  obtain ⟨a0, n0, c0, rfl⟩ := okWide_slice Tryd.underlying22 (hval 0 22 v0 rfl rfl)
  have k0 := h0
  have lt0 : ∀ x ∈ p0, x.block < W.heap.size := by obtain ⟨m, hm⟩ := k0; exact DataW.trod_lt m _ _ _ hm
  obtain ⟨l0, w0, x0, m0, b0⟩ : ∃ ls : List (List UInt8), Parts W W.heap.size a0 n0 ls ∧ (∀ l ∈ ls, l.length ≤ 9223372036854775807) ∧ n0 ≤ c0 ∧ n0 ≤ 9223372036854775807 := by
    obtain ⟨fuel, hf⟩ := h0
    rcases Deep.open_int_rows Tryd.underlying22 Tryd.underlying31 Tryd.underlying5 (by kernel_rfl) (by kernel_rfl) hf with ⟨hcs, _⟩ | ⟨x, l, c, A, L, C, Z, hcs, _, hl, hm, _, hrow⟩
    · simp [Value.cells] at hcs
      obtain ⟨rfl, rfl, rfl⟩ := hcs
      exact ⟨[], ⟨rfl, [], Rd.nil _ _ _, fun i hi => by simp at hi⟩, (fun _ h => by cases h), Nat.le_refl _, by omega⟩
    · simp [Value.cells] at hcs
      obtain ⟨rfl, rfl, rfl⟩ := hcs
      unfold maxLen at hm
      obtain ⟨ls, hl2, hx⟩ := parts_rows hl hrow
      exact ⟨ls, hl2, hx, hl, by omega⟩
  clear hA0 hval
  refine (walk a0 n0 c0 l0 W hT w0 m0 b0 x0).mono fun e W' ⟨he, bel⟩ => ?_
  subst he
  exact ⟨_, rfl, _, _, _, [], _, [], hW', trodAll_mk1 (shut_bool Tryd.underlying4 _), (trodAll_cons_mk (Below.trod laidOut (by kernel_rfl) (of_decide_eq_true (by kernel_rfl)) k0 bel lt0) trodAll_mk0), rfl, bel.frame _, fun h => by cases h⟩

theorem laid_met (os : Os) : laidMet Tryd.prog Rows.sumsCrcsRow.laid ((laidWorld os).forCall (fun _ _ => 0) ⟨#[], #[.slice none 0 0], []⟩).memory :=
  laidMet_of_run' 8 (by kernel_rfl) (by kernel_rfl)
theorem reads (os : Os) {H : Type} (enc : TypeId × Value → H) : ∃ places, DataW.whole enc Tryd.prog ((laidWorld os).forCall (fun _ _ => 0) ⟨#[], #[.slice none 0 0], []⟩).memory Tryd.f8.params.toList Rows.sumsCrcsSpec.vars false (#[.slice none 0 0] : Array Value).toList 8 = some ([.nil], [], places) :=
  ⟨[], by kernel_rfl⟩
set_option maxRecDepth 100000 in
theorem lifted (os : Os) (started : os.Started) (H : Type) (enc : TypeId × Value → H) (F : Stop.Interp) :
    ReturnsInHanded {} Tryd.checked os 8 .any ((OpenSpec.ofChange Rows.sumsCrcsSpec).preRow enc Tryd.prog Tryd.f8 Rows.sumsCrcsRow.domain false Rows.sumsCrcsRow.laid) (((OpenSpec.ofChange Rows.sumsCrcsSpec).at F).post enc Tryd.prog Tryd.f8 false true false false) := by
  obtain ⟨places, hx⟩ := reads os enc
  refine returnsInHanded_of_row (C := Tryd.checked) (s := OpenSpec.ofChange Rows.sumsCrcsSpec) own started (by kernel_rfl) Tryd.func8
    (witness_row_at (enc := enc) (C := Tryd.checked) false (laidWorld os) #[.slice none 0 0] rfl (by kernel_rfl) (by kernel_rfl) (by kernel_rfl)
      (OpenSpec.preRow_of_cond 8 hx (by kernel_rfl) (fun k hk => by cases hk) (by kernel_rfl) (laid_met os))) ?_
  intro W base args ds gs before hval hW _ _ _ hL _ _
  exact contract H enc W base args ds gs before hval hW hL
theorem said : Rows.SumsCrcsSaid :=
  OpenClaim.holds_of_cond 8 Tryd.f8 rfl rfl rfl rfl rfl rfl rfl ⟨rfl, rfl, rfl, rfl, rfl⟩ rfl rfl rfl rfl rfl (by kernel_rfl) Tryd.func8 (by kernel_rfl)
    (of_decide_eq_true (by kernel_rfl)) (by unfold Func.isWrapper; first | (rw [if_pos (by decide +kernel)]; kernel_rfl) | (rw [if_neg (by decide +kernel)]; exact ⟨rfl, rfl⟩))
    (fun os started H enc _ F => by rw [OpenClaim.pre_eq_preRow]; exact lifted os started H enc F)
theorem plain (f : FuncId) (fn : Func) (hf : Tryd.pinned.checked.prog.funcNamed "flume/flumelaw01.SumsCrcs" = some f) (hfn : Tryd.pinned.checked.prog.funcs[f]? = some fn) :
    false = Tryd.pinned.checked.prog.looks [] ∧ ∀ (j : Nat) t, fn.params[j]? = some t → Tryd.pinned.checked.prog.wantsStandIn t = false := by
  obtain rfl : f = 8 := Option.some.inj ((show Tryd.prog.funcNamed "flume/flumelaw01.SumsCrcs" = some 8 by kernel_rfl).symm.trans hf) |>.symm
  obtain rfl : fn = Tryd.f8 := (Option.some.inj (Tryd.func8.symm.trans hfn)).symm
  refine ⟨by kernel_rfl, fun j t ht => ?_⟩
  rw [Tryd.params8] at ht
  have hm : t ∈ [22] := by simpa using Array.mem_of_getElem? ht
  have hall : ([22].all fun u => !Tryd.prog.wantsStandIn u) = true := by kernel_rfl
  exact (show Tryd.prog.wantsStandIn t = false by simpa using List.all_eq_true.1 hall t hm)
/-- the given statement -/
theorem proved : Rows.SumsCrcsCardSaid :=
  Claim7.holds_tied_plain_at .later [] _ _ _ _ said (fun _ h => by cases h) (by kernel_rfl) (fun _ h => by cases h) sumsCrcs_row_tie rfl ⟨rfl, rfl⟩ (by kernel_rfl) rfl plain (by kernel_rfl)
#print axioms proved
end Go.Proofs.YtkgfbehlcjjjnaaDoor.sumsCrcsDone
