/- SumsInets: for every input the law answers true and leaves its arguments as they were; the table that the program lays is tied to its text. -/
import Derived.Test.YtkgfbehlcjjjnaaDoorSumF
namespace Go.Proofs.YtkgfbehlcjjjnaaDoor.sumsInetsDone
open Go.RowKit Mem SM lib CM sum
theorem walk (A : Option Addr) (n c : Nat) (ls : List (List UInt8)) (w : World) (ht : Tab w) (h : Parts w w.heap.size A n ls) (_hc : n ≤ c) (hn : n ≤ 9223372036854775807) (hx : ∀ l ∈ ls, l.length ≤ 9223372036854775807) :
    Calls Tryd.prog 3 #[.slice A n c] w fun e w' => e = .returned (.bool true) ∧ Below w.heap.size w w' := by
  have hpos := ht.pos
  have HT := Lib.hid ht
  have HX := Lib.hid hx
  clear ht hx
  go_enter Tryd.func3, Tryd.ntmps3
  go_wp2_with fail
  refine (light_any A n c _ ls w h HX.out hn).mono ?_
  rintro e w1 ⟨b, rfl, hlt, rfl⟩
  have HL := Lib.hid hlt
  clear hlt
  cases b with
  | false =>
    go_wp2_with fail
    refine (awake_any _ HT.out).mono ?_
    rintro e w3 ⟨rfl, hb3⟩
    go_wp2
    go_ret
    exact ⟨rfl, hb3⟩
  | true =>
    obtain ⟨hn1, htot⟩ := HL.out rfl
    go_wp2_with fail
    refine (inet_any A n c _ ls _ h (by omega) (by omega)).mono ?_
    rintro e w2 ⟨rfl, q, rfl⟩
    obtain ⟨u, hu⟩ : ∃ u, u = inet ls := ⟨_, rfl⟩
    rw [← hu]
    have HU := Lib.hid hu
    clear hu
    go_wp2_with fail
    refine (refInet_any A n c _ ls _ (h.drewN q) (Nat.le_refl _) (by omega) (by omega)).mono ?_
    rintro e w3 ⟨rfl, hb3⟩
    rw [← HU.out]
    have hbb : ((u : Int) == (u : Int)) = true := by simp
    go_wp2_with fail
    refine (valid_any A n c _ ls _ ((h.drewN q).below hb3 (Nat.le_refl _)) (by omega) (by omega)).mono ?_
    rintro e w4 ⟨rfl, q2, rfl⟩
    rw [← HU.out]
    by_cases h0 : u = 0
    · subst h0
      rw [show decide (0 = 0 ∨ 0 = 65535) = true from by decide]
      have b0 : (((0 : Nat) : Int) == 0) = true := by decide
      go_wp2_with fail
      refine (awake_any _ ((HT.out.drewN q).below hb3 hpos |>.drewN q2)).mono ?_
      rintro e w5 ⟨rfl, hb5⟩
      go_wp2
      go_ret
      exact ⟨rfl, ((below_drewN (Below.refl _ _) q).trans (below_drewN hb3 q2)).trans (hb5.mono hb3.size)⟩
    · have b0 : ((u : Int) == 0) = false := by rw [beq_eq_false_iff_ne]; omega
      by_cases h1 : u = 65535
      · have b1 : ((u : Int) == 65535) = true := by rw [beq_iff_eq]; omega
        rw [show decide (u = 0 ∨ u = 65535) = true from by simp [h1]]
        clear h0 h1
        go_wp2_with fail
        refine (awake_any _ ((HT.out.drewN q).below hb3 hpos |>.drewN q2)).mono ?_
        rintro e w5 ⟨rfl, hb5⟩
        go_wp2
        go_ret
        exact ⟨rfl, ((below_drewN (Below.refl _ _) q).trans (below_drewN hb3 q2)).trans (hb5.mono hb3.size)⟩
      · have b1 : ((u : Int) == 65535) = false := by rw [beq_eq_false_iff_ne]; omega
        rw [show decide (u = 0 ∨ u = 65535) = false from by simp [h0, h1]]
        clear h0 h1
        go_wp2_with fail
        refine (awake_any _ ((HT.out.drewN q).below hb3 hpos |>.drewN q2)).mono ?_
        rintro e w5 ⟨rfl, hb5⟩
        go_wp2
        go_ret
        exact ⟨rfl, ((below_drewN (Below.refl _ _) q).trans (below_drewN hb3 q2)).trans (hb5.mono hb3.size)⟩
end Go.Proofs.YtkgfbehlcjjjnaaDoor.sumsInetsDone
namespace Go.Proofs.YtkgfbehlcjjjnaaDoor.sumsInetsDone
open Go.ChangeShapes Go.WideShapes Go.ChangeAt Go.RowKit Mem sum
set_option linter.unusedVariables false
theorem contract (H : Type) (enc : TypeId × Value → H) (W : World) (base : Nat) (args : Array Value) (ds gs : List (DataW H)) (before : List MemPlace)
    (hval : ∀ (j : Nat) t v, Tryd.f3.params[j]? = some t → args[j]? = some v → Value.okWide Tryd.prog W .any base t v)
    (hW : DataW.Whole enc Tryd.prog Tryd.f3.params.toList Rows.sumsInetsSpec.vars false W args.toList ds gs before) (hL : laidMetH Tryd.prog Rows.sumsInetsRow.laid W) :
    Calls Tryd.prog 3 args W fun e W' => ∃ v, e = .returned v ∧ Rows.sumsInetsSpec.post enc Tryd.prog Tryd.f3 false true false false W args v W' := by
  have hW' := hW
  have hT : Tab W := table rfl hL
  obtain ⟨p, q, hA0, hV, rfl, hfz, hnd⟩ := hW
  have hA : DataW.TrodAll enc Tryd.prog W 0 (fun _ => true) true Tryd.f3.params.toList args.toList ds p := hA0
  rw [Tryd.params3] at hA hval
  obtain ⟨v0, vs0, d0, ds0, p0, q0, hargs, rfl, rfl, h0, r0⟩ := trodAll_cons hA
  obtain ⟨rfl, rfl, rfl⟩ := trodAll_nil r0
  obtain rfl : args = #[v0] := by cases args; simp_all
  obtain ⟨rfl, rfl⟩ := trodVars_none hV
  obtain ⟨a0, n0, c0, rfl⟩ := okWide_slice Tryd.underlying22 (hval 0 22 v0 rfl rfl)
  have k0 := h0
  have lt0 : ∀ x ∈ p0, x.block < W.heap.size := by obtain ⟨m, hm⟩ := k0; exact DataW.trod_lt m _ _ _ hm
  obtain ⟨l0, w0, x0, m0, b0⟩ : ∃ ls : List (List UInt8), Parts W W.heap.size a0 n0 ls ∧ (∀ l ∈ ls, l.length ≤ 9223372036854775807) ∧ n0 ≤ c0 ∧ n0 ≤ 9223372036854775807 := by
    obtain ⟨fuel, hf⟩ := h0
    rcases Deep.open_int_rows Tryd.underlying22 Tryd.underlying31 Tryd.underlying5 (by kernel_rfl) (by kernel_rfl) hf with ⟨hcs, _⟩ | ⟨x, l, c, A, L, C, Z, hcs, _, hl, hm, _, hrow⟩
    · simp [Value.cells] at hcs
      obtain ⟨rfl, rfl, rfl⟩ := hcs
      exact ⟨[], ⟨rfl, [], Rd.nil _ _ _, fun i hi => by simp at hi⟩, (fun _ h => by cases h), Nat.le_refl _, by omega⟩
    · simp [Value.cells] at hcs
      obtain ⟨rfl, rfl, rfl⟩ := hcs
      unfold maxLen at hm
      obtain ⟨ls, hl2, hx⟩ := parts_rows hl hrow
      exact ⟨ls, hl2, hx, hl, by omega⟩
  clear hA0 hval
  refine (walk a0 n0 c0 l0 W hT w0 m0 b0 x0).mono fun e W' ⟨he, bel⟩ => ?_
  subst he
  exact ⟨_, rfl, _, _, _, [], _, [], hW', trodAll_mk1 (shut_bool Tryd.underlying4 _), (trodAll_cons_mk (Below.trod laidOut (by kernel_rfl) (of_decide_eq_true (by kernel_rfl)) k0 bel lt0) trodAll_mk0), rfl, bel.frame _, fun h => by cases h⟩

theorem laid_met (os : Os) : laidMet Tryd.prog Rows.sumsInetsRow.laid ((laidWorld os).forCall (fun _ _ => 0) ⟨#[], #[.slice none 0 0], []⟩).memory :=
  laidMet_of_run' 8 (by kernel_rfl) (by kernel_rfl)
theorem reads (os : Os) {H : Type} (enc : TypeId × Value → H) : ∃ places, DataW.whole enc Tryd.prog ((laidWorld os).forCall (fun _ _ => 0) ⟨#[], #[.slice none 0 0], []⟩).memory Tryd.f3.params.toList Rows.sumsInetsSpec.vars false (#[.slice none 0 0] : Array Value).toList 8 = some ([.nil], [], places) :=
  ⟨[], by kernel_rfl⟩
set_option maxRecDepth 100000 in
theorem lifted (os : Os) (started : os.Started) (H : Type) (enc : TypeId × Value → H) (F : Stop.Interp) :
    ReturnsInHanded {} Tryd.checked os 3 .any ((OpenSpec.ofChange Rows.sumsInetsSpec).preRow enc Tryd.prog Tryd.f3 Rows.sumsInetsRow.domain false Rows.sumsInetsRow.laid) (((OpenSpec.ofChange Rows.sumsInetsSpec).at F).post enc Tryd.prog Tryd.f3 false true false false) := by
  obtain ⟨places, hx⟩ := reads os enc
  refine returnsInHanded_of_row (C := Tryd.checked) (s := OpenSpec.ofChange Rows.sumsInetsSpec) own started (by kernel_rfl) Tryd.func3
    (witness_row_at (enc := enc) (C := Tryd.checked) false (laidWorld os) #[.slice none 0 0] rfl (by kernel_rfl) (by kernel_rfl) (by kernel_rfl)
      (OpenSpec.preRow_of_cond 8 hx (by kernel_rfl) (fun k hk => by cases hk) (by kernel_rfl) (laid_met os))) ?_
  intro W base args ds gs before hval hW _ _ _ hL _ _
  exact contract H enc W base args ds gs before hval hW hL
theorem said : Rows.SumsInetsSaid :=
  OpenClaim.holds_of_cond 3 Tryd.f3 rfl rfl rfl rfl rfl rfl rfl ⟨rfl, rfl, rfl, rfl, rfl⟩ rfl rfl rfl rfl rfl (by kernel_rfl) Tryd.func3 (by kernel_rfl)
    (of_decide_eq_true (by kernel_rfl)) (by unfold Func.isWrapper; first | (rw [if_pos (by decide +kernel)]; kernel_rfl) | (rw [if_neg (by decide +kernel)]; exact ⟨rfl, rfl⟩))
    (fun os started H enc _ F => by rw [OpenClaim.pre_eq_preRow]; exact lifted os started H enc F)
theorem plain (f : FuncId) (fn : Func) (hf : Tryd.pinned.checked.prog.funcNamed "flume/flumelaw01.SumsInets" = some f) (hfn : Tryd.pinned.checked.prog.funcs[f]? = some fn) :
    false = Tryd.pinned.checked.prog.looks [] ∧ ∀ (j : Nat) t, fn.params[j]? = some t → Tryd.pinned.checked.prog.wantsStandIn t = false := by
  obtain rfl : f = 3 := Option.some.inj ((show Tryd.prog.funcNamed "flume/flumelaw01.SumsInets" = some 3 by kernel_rfl).symm.trans hf) |>.symm
  obtain rfl : fn = Tryd.f3 := (Option.some.inj (Tryd.func3.symm.trans hfn)).symm
  refine ⟨by kernel_rfl, fun j t ht => ?_⟩
  rw [Tryd.params3] at ht
  have hm : t ∈ [22] := by simpa using Array.mem_of_getElem? ht
  have hall : ([22].all fun u => !Tryd.prog.wantsStandIn u) = true := by kernel_rfl
  exact (show Tryd.prog.wantsStandIn t = false by simpa using List.all_eq_true.1 hall t hm)
/-- the given statement -/
theorem proved : Rows.SumsInetsCardSaid :=
  Claim7.holds_tied_plain_at .later [] _ _ _ _ said (fun _ h => by cases h) (by kernel_rfl) (fun _ h => by cases h) sumsInets_row_tie rfl ⟨rfl, rfl⟩ (by kernel_rfl) rfl plain (by kernel_rfl)
#print axioms proved
end Go.Proofs.YtkgfbehlcjjjnaaDoor.sumsInetsDone
