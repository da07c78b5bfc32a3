/- DigestParts: for every input the law answers true and leaves its arguments as they were; the table that the program lays is tied to its text. -/
import Derived.Test.YthfkldcfidehdaaDoorDgL
namespace Go.Proofs.YthfkldcfidehdaaDoor.digestPartsDone
open Go.RowKit Mem DM dg
set_option maxRecDepth 100000 in
set_option maxHeartbeats 2000000 in
theorem walk (A : Option Addr) (n c : Nat) (ls : List (List UInt8)) (w : World) (hT : Tab w) (hp : Parts w w.heap.size A n ls) (_ : n ≤ c) (hn : n ≤ 9223372036854775807) (hx : ∀ l ∈ ls, l.length ≤ 9223372036854775807) :
    Calls Tryd.prog 4 #[.slice A n c] w fun e w' => e = .returned (.bool true) ∧ Below w.heap.size w w' := by
  have Hl := Lib.hid hp.len
  have HX := Lib.hid hx
  have HT := Lib.hid hT
  have HP := Lib.hid hp
  obtain ⟨D, hD⟩ : ∃ D, (bv (digest ls.flatten)).toArray = D := ⟨_, rfl⟩
  have heq : ∀ w : World, (binOp .eql 26 (.agg D) (.agg D)).run Tryd.prog w = .ok (.bool true) w := fun w => by
    rw [← hD, sum_eql _ _ (digest_len _) (digest_len _) w, decide_eq_true rfl]
  have HD := Lib.hid hD
  clear hT hp hx hD
  go_enter Tryd.func4, Tryd.ntmps4
  go_wp2_with fail
  go_loop [3, 4] (fun s i => ∃ k S : Nat, s = .int .i64 S ∧ i = .int .i64 k ∧ k ≤ n ∧ k ≤ 8193 ∧ S ≤ 16385 ∧ Hid (S ≤ 8192 → k ≤ S ∧ tot (ls.take k) ≤ S)) (fun _ i => n - (intOf i).toNat)
  case atStart => exact ⟨0, 0, rfl, rfl, by omega, by omega, by omega, (fun _ => by simp [tot] : 0 ≤ 8192 → 0 ≤ 0 ∧ tot (ls.take 0) ≤ 0)⟩
  case round =>
    obtain ⟨k, S, rfl, rfl, hk, hk2, hS, HN⟩ := hrel
    by_cases hS1 : S ≤ 8192
    · obtain ⟨hkS, htS⟩ := HN.out hS1
      by_cases hlt : k < n
      · obtain ⟨b, off, Ai, ni, ci, l, rfl, hbB, hcell, hci, hri, ⟨hkl, hel⟩, hni⟩ := HP.out.at_ hlt
        have hlen : ni ≤ 9223372036854775807 := by rw [hni, ← hel]; exact HX.out _ (List.getElem_mem hkl)
        have htk : tot (ls.take (k + 1)) ≤ S + ni := by rw [tot_take ls k hkl, hel, hni]; omega
        have HTK := Lib.hid htk
        have hlt' : (k : Int) < (n : Int) := by omega
        clear hni htk htS
        by_cases hs : ni ≤ 8192
        · have hmin : min (ni : Int) 8192 = (ni : Int) := by omega
          go_wp2_with fail
          go_round
          case rel => exact ⟨k + 1, S + (1 + ni), by go_num, by go_num, by omega, by omega, by omega, (fun _ => ⟨by omega, by have := HTK.out; omega⟩ : S + (1 + ni) ≤ 8192 → k + 1 ≤ S + (1 + ni) ∧ tot (ls.take (k + 1)) ≤ S + (1 + ni))⟩
          case measure => simp [intOf]; omega
        · have hmin : min (ni : Int) 8192 = 8192 := by omega
          go_wp2_with fail
          go_round
          case rel => exact ⟨k + 1, S + 8193, by go_num, by go_num, by omega, by omega, by omega, (fun h => by omega : S + 8193 ≤ 8192 → k + 1 ≤ S + 8193 ∧ tot (ls.take (k + 1)) ≤ S + 8193)⟩
          case measure => simp [intOf]; omega
      · obtain rfl : k = n := by omega
        rw [List.take_of_length_le (by have := Hl.out; omega)] at htS
        have hof := of_any A k c w.heap.size ls w HT.out HP.out (Nat.le_refl _) (by omega) (by omega)
        rw [HD.out] at hof
        have HOF := Lib.hid hof
        clear hof
        have HTS := Lib.hid htS
        clear htS
        go_wp2_with (first
          | (go_at_call 11; refine HOF.out.mono ?_; rintro e w1 ⟨rfl, hb1⟩)
          | fail)
        have HB1 := Lib.hid hb1
        go_wp2_with (first
          | (go_at_call 15; refine (concat_any A k c w.heap.size ls w1 (HP.out.below hb1 (Nat.le_refl _)) hb1.size (by omega) (by have := HTS.out; omega)).mono ?_; rintro e w2 ⟨A3, N3, c3, rfl, ho3, hb2⟩)
          | fail)
        have hb3 : Below w.heap.size w2 (w2.alloc (.cells #[.slice A3 N3 c3] 22)) := (Below.refl _ _).alloc (by have := hb1.size; have := hb2.size; omega) _
        have hbb := (hb1.trans (hb2.mono hb1.size)).trans (hb3)
        have hpp := Parts.one (w := w2) (B := w2.heap.size) ho3.rd ho3.cap.1 (Nat.le_refl _) 22
        have hfl : [ls.flatten].flatten = ls.flatten := by simp
        have hof := of_any (some ⟨w2.heap.size, 0, none⟩) 1 1 (w2.heap.size + 1) [ls.flatten] _ (HT.out.below hbb) hpp (by simp) (by omega) (by rw [tot_flat, hfl, ← tot_flat]; have := HTS.out; omega)
        rw [hfl, HD.out] at hof
        have HBB := Lib.hid hbb
        have HOF2 := Lib.hid hof
        clear hof hpp hb3 hbb hfl ho3 hb2 hb1
        go_wp2_with (first
          | (go_at_call 11; refine HOF2.out.mono ?_; rintro e w4 ⟨rfl, hb4⟩)
          | (go_at_call 9; refine (awake_any _ ((HT.out.below HBB.out).below hb4)).mono ?_; rintro e w5 ⟨rfl, hb5⟩)
          | fail)
        go_ret
        exact ⟨rfl, HBB.out.trans ((hb4.mono HBB.out.size).trans (hb5.mono (Nat.le_trans HBB.out.size hb4.size)))⟩
    · have hd : ¬ (S : Int) ≤ 8192 := by omega
      have haw := awake_any w HT.out
      have HAW := Lib.hid haw
      clear haw
      by_cases hlt : k < n
      · go_wp2_with (go_at_call 9; refine HAW.out.mono ?_; rintro e w1 ⟨rfl, hb1⟩)
        go_ret
        exact ⟨rfl, hb1⟩
      · go_wp2_with (go_at_call 9; refine HAW.out.mono ?_; rintro e w1 ⟨rfl, hb1⟩)
        go_ret
        exact ⟨rfl, hb1⟩
end Go.Proofs.YthfkldcfidehdaaDoor.digestPartsDone
namespace Go.Proofs.YthfkldcfidehdaaDoor.digestPartsDone
open Go.ChangeShapes Go.WideShapes Go.ChangeAt Go.RowKit Mem DM dg
set_option linter.unusedVariables false
theorem contract (H : Type) (enc : TypeId × Value → H) (W : World) (base : Nat) (args : Array Value) (ds gs : List (DataW H)) (before : List MemPlace)
    (hval : ∀ (j : Nat) t v, Tryd.f4.params[j]? = some t → args[j]? = some v → Value.okWide Tryd.prog W .any base t v)
    (hW : DataW.Whole enc Tryd.prog Tryd.f4.params.toList Rows.digestPartsSpec.vars false W args.toList ds gs before) (hL : laidMetH Tryd.prog Rows.digestPartsRow.laid W) :
    Calls Tryd.prog 4 args W fun e W' => ∃ v, e = .returned v ∧ Rows.digestPartsSpec.post enc Tryd.prog Tryd.f4 false true false false W args v W' := by
  have hW' := hW
  have hT : Tab W := table rfl hL
  obtain ⟨p, q, hA0, hV, rfl, hfz, hnd⟩ := hW
  have hA : DataW.TrodAll enc Tryd.prog W 0 (fun _ => true) true Tryd.f4.params.toList args.toList ds p := hA0
  rw [Tryd.params4] at hA hval
  obtain ⟨v0, vs0, d0, ds0, p0, q0, hargs, rfl, rfl, h0, r0⟩ := trodAll_cons hA
  obtain ⟨rfl, rfl, rfl⟩ := trodAll_nil r0
  obtain rfl : args = #[v0] := by cases args; simp_all
  obtain ⟨rfl, rfl⟩ := trodVars_none hV
  obtain ⟨a0, n0, c0, rfl⟩ := okWide_slice Tryd.underlying31 (hval 0 31 v0 rfl rfl)
  have k0 := h0
  have lt0 : ∀ x ∈ p0, x.block < W.heap.size := by obtain ⟨m, hm⟩ := k0; exact DataW.trod_lt m _ _ _ hm
  obtain ⟨l0, w0, x0, m0, b0⟩ : ∃ ls : List (List UInt8), Parts W W.heap.size a0 n0 ls ∧ (∀ l ∈ ls, l.length ≤ 9223372036854775807) ∧ n0 ≤ c0 ∧ n0 ≤ 9223372036854775807 := by
    obtain ⟨fuel, hf⟩ := h0
    rcases Deep.open_int_rows Tryd.underlying31 Tryd.underlying22 Tryd.underlying5 (by kernel_rfl) (by kernel_rfl) hf with ⟨hcs, _⟩ | ⟨x, l, c, A, L, C, Z, hcs, _, hl, hm, _, hrow⟩
    · simp [Value.cells] at hcs
      obtain ⟨rfl, rfl, rfl⟩ := hcs
      exact ⟨[], ⟨rfl, [], Rd.nil _ _ _, fun i hi => by simp at hi⟩, (fun _ h => by cases h), Nat.le_refl _, by omega⟩
    · simp [Value.cells] at hcs
      obtain ⟨rfl, rfl, rfl⟩ := hcs
      unfold maxLen at hm
      obtain ⟨ls, hl2, hx⟩ := parts_rows hl hrow
      exact ⟨ls, hl2, hx, hl, by omega⟩
  clear hA0 hval
  refine (walk a0 n0 c0 l0 W hT w0 m0 b0 x0).mono fun e W' ⟨he, bel⟩ => ?_
  subst he
  exact ⟨_, rfl, _, _, _, [], _, [], hW', trodAll_mk1 (shut_bool Tryd.underlying4 _), (trodAll_cons_mk (Below.trod laidOut (by kernel_rfl) (of_decide_eq_true (by kernel_rfl)) k0 bel lt0) trodAll_mk0), rfl, bel.frame _, fun h => by cases h⟩

theorem laid_met (os : Os) : laidMet Tryd.prog Rows.digestPartsRow.laid ((laidWorld os).forCall (fun _ _ => 0) ⟨#[], #[.slice none 0 0], []⟩).memory :=
  laidMet_of_run' 8 (by kernel_rfl) (by kernel_rfl)
theorem reads (os : Os) {H : Type} (enc : TypeId × Value → H) : ∃ places, DataW.whole enc Tryd.prog ((laidWorld os).forCall (fun _ _ => 0) ⟨#[], #[.slice none 0 0], []⟩).memory Tryd.f4.params.toList Rows.digestPartsSpec.vars false (#[.slice none 0 0] : Array Value).toList 8 = some ([.nil], [], places) :=
  ⟨[], by kernel_rfl⟩
set_option maxRecDepth 100000 in
theorem lifted (os : Os) (started : os.Started) (H : Type) (enc : TypeId × Value → H) (F : Stop.Interp) :
    ReturnsInHanded {} Tryd.checked os 4 .any ((OpenSpec.ofChange Rows.digestPartsSpec).preRow enc Tryd.prog Tryd.f4 Rows.digestPartsRow.domain false Rows.digestPartsRow.laid) (((OpenSpec.ofChange Rows.digestPartsSpec).at F).post enc Tryd.prog Tryd.f4 false true false false) := by
  obtain ⟨places, hx⟩ := reads os enc
  refine returnsInHanded_of_row (C := Tryd.checked) (s := OpenSpec.ofChange Rows.digestPartsSpec) own started (by kernel_rfl) Tryd.func4
    (witness_row_at (enc := enc) (C := Tryd.checked) false (laidWorld os) #[.slice none 0 0] rfl (by kernel_rfl) (by kernel_rfl) (by kernel_rfl)
      (OpenSpec.preRow_of_cond 8 hx (by kernel_rfl) (fun k hk => by cases hk) (by kernel_rfl) (laid_met os))) ?_
  intro W base args ds gs before hval hW _ _ _ hL _ _
  exact contract H enc W base args ds gs before hval hW hL
theorem said : Rows.DigestPartsSaid :=
  OpenClaim.holds_of_cond 4 Tryd.f4 rfl rfl rfl rfl rfl rfl rfl ⟨rfl, rfl, rfl, rfl, rfl⟩ rfl rfl rfl rfl rfl (by kernel_rfl) Tryd.func4 (by kernel_rfl)
    (of_decide_eq_true (by kernel_rfl)) (by unfold Func.isWrapper; first | (rw [if_pos (by decide +kernel)]; kernel_rfl) | (rw [if_neg (by decide +kernel)]; exact ⟨rfl, rfl⟩))
    (fun os started H enc _ F => by rw [OpenClaim.pre_eq_preRow]; exact lifted os started H enc F)
theorem plain (f : FuncId) (fn : Func) (hf : Tryd.pinned.checked.prog.funcNamed "flume/flumelaw08.DigestParts" = some f) (hfn : Tryd.pinned.checked.prog.funcs[f]? = some fn) :
    false = Tryd.pinned.checked.prog.looks [] ∧ ∀ (j : Nat) t, fn.params[j]? = some t → Tryd.pinned.checked.prog.wantsStandIn t = false := by
  obtain rfl : f = 4 := Option.some.inj ((show Tryd.prog.funcNamed "flume/flumelaw08.DigestParts" = some 4 by kernel_rfl).symm.trans hf) |>.symm
  obtain rfl : fn = Tryd.f4 := (Option.some.inj (Tryd.func4.symm.trans hfn)).symm
  refine ⟨by kernel_rfl, fun j t ht => ?_⟩
  rw [Tryd.params4] at ht
  have hm : t ∈ [31] := by simpa using Array.mem_of_getElem? ht
  have hall : ([31].all fun u => !Tryd.prog.wantsStandIn u) = true := by kernel_rfl
  exact (show Tryd.prog.wantsStandIn t = false by simpa using List.all_eq_true.1 hall t hm)
/-- the given statement -/
theorem proved : Rows.DigestPartsCardSaid :=
  Claim7.holds_tied_plain_at .later [] _ _ _ _ said (fun _ h => by cases h) (by kernel_rfl) (fun _ h => by cases h) digestParts_row_tie rfl ⟨rfl, rfl⟩ (by kernel_rfl) rfl plain (by kernel_rfl)
#print axioms proved
end Go.Proofs.YthfkldcfidehdaaDoor.digestPartsDone
