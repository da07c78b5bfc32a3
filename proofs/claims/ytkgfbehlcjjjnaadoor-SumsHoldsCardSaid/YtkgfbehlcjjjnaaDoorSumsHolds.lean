/- SumsHolds: for every input the law answers true and leaves its arguments as they were; the table that the program lays is tied to its text. -/
import Derived.Test.YtkgfbehlcjjjnaaDoorSumF
import Derived.Test.YtkgfbehlcjjjnaaDoorSumD
namespace Go.Proofs.YtkgfbehlcjjjnaaDoor.sumsHoldsDone
open Go.RowKit Mem SM lib CM sum
theorem walk (A : Option Addr) (n c : Nat) (l : List UInt8) (k : Int) (w : World) (ht : Tab w) (h : Rd w w.heap.size A n (bv l)) (hc : n ≤ c) (hn : n ≤ 9223372036854775807) (_hk : (Lit.int .i64 k).wf = true) :
    Calls Tryd.prog 5 #[.slice A n c, .int .i64 k] w fun e w' => e = .returned (.bool true) ∧ Below w.heap.size w w' := by
  have hpos := ht.pos
  have HT := Lib.hid ht
  have Hl := Lib.hid h.len
  clear ht
  by_cases hbig : 65536 < n
  · go_enter Tryd.func5, Tryd.ntmps5
    go_wp2_with fail
    refine (awake_any _ HT.out).mono ?_
    rintro e w1 ⟨rfl, hb1⟩
    go_wp2
    go_ret
    exact ⟨rfl, hb1⟩
  by_cases hsmall : n < 2
  · go_enter Tryd.func5, Tryd.ntmps5
    go_wp2_with fail
    refine (awake_any _ HT.out).mono ?_
    rintro e w1 ⟨rfl, hb1⟩
    go_wp2
    go_ret
    exact ⟨rfl, hb1⟩
  obtain ⟨m2, hm2⟩ : ∃ m2, m2 = n / 2 := ⟨_, rfl⟩
  have f1 : (n : Int) / 2 = (m2 : Int) := by omega
  have hm3 : 1 ≤ m2 ∧ m2 ≤ 32768 := by omega
  have hm4 : 2 * m2 ≤ n := by omega
  have HM := Lib.hid hm2
  clear hm2
  obtain ⟨hm3a, hm3b⟩ := hm3
  obtain ⟨a, ha⟩ : ∃ a : Nat, IntKind.u64.wrap k = (a : Int) := ⟨(IntKind.u64.wrap k).toNat, by rw [Int.toNat_of_nonneg (wrap_u64_nonneg k)]⟩
  obtain ⟨j, hj⟩ : ∃ j, j = a % m2 := ⟨_, rfl⟩
  have hjlt : j < m2 := by rw [hj]; exact Nat.mod_lt _ (by omega)
  have f3 : ((a : Int) % (m2 : Int)) = (j : Int) := by rw [hj]; simp
  clear hj
  go_enter Tryd.func5, Tryd.ntmps5
  go_wp2_with (refine wp_cut_h u8ty rfl (.tmp 17) (.tmp 21) rfl rfl rfl h (by omega) (by omega) hc ?_; intro A1 n1 hn1 hr1; have HN1 := Lib.hid hn1; clear hn1)
  rw [show ((m2 : Int) * 2).toNat = 2 * m2 from by omega, ← bv_take] at hr1
  refine (clone_any _ _ _ _ _ _ hr1 (Nat.le_refl _) (by have := HN1.out; omega)).mono ?_
  rintro e w1 ⟨A2, n2, c2, rfl, ho, hb⟩
  have hn2 : n2 = 2 * m2 := by have h1 := ho.len; have h2 := Hl.out; rw [bv_len, List.length_take] at h1; rw [bv_len] at h2; omega
  have f4 : (n2 : Int) / 2 = (m2 : Int) := by omega
  have f5 : n2 ≤ 65536 := by omega
  have HN2 := Lib.hid hn2
  clear hn2
  obtain ⟨g, rfl, hgB, hgl⟩ := ho.at0 (by omega)
  have hl2 : (l.take (2 * m2)).length = n2 := by have := ho.len; rw [bv_len] at this; exact this
  have HL2 := Lib.hid hl2
  clear hl2
  have hc2 := ho.cap.1
  obtain ⟨⟨x0, hx0⟩, ⟨y0, hy0⟩, z0, z1, hset⟩ := two_writes ho hgB j (by have := HN2.out; omega)
  obtain ⟨o2, b2⟩ := hset 0 0 0 (by omega) rfl rfl
  have HO2 := Lib.hid o2
  have HB2 := Lib.hid b2
  clear hset o2 b2
  have i1 : (2 * (j : Int)).toNat = 2 * j := by omega
  have i2 : (2 * (j : Int) + 1).toNat = 2 * j + 1 := by omega
  have i3 : 2 * (j : Int) < (n2 : Int) := by have := HN2.out; omega
  have i4 : 2 * (j : Int) + 1 < (n2 : Int) := by have := HN2.out; omega
  go_wp2_with fail
  refine (inet_row HO2.out f5 _ (z := w1.heap.size) (by simp)).mono ?_
  rintro e w3 ⟨rfl, ho3, hb3⟩
  have hb3' := HB2.out.trans (hb3.mono (by omega))
  have hz3 := hb3'.size
  clear hb3 HO2 HB2 hx0 hy0 z0 z1
  obtain ⟨N, hN⟩ : ∃ N, N = inet [put2 (l.take (2 * m2)) j 0] := ⟨_, rfl⟩
  rw [← hN]
  have hN2 : N ≤ 65535 := by rw [hN]; unfold inet; omega
  have hval := holds_valid (l.take (2 * m2)) j (by have := HL2.out; have := HN2.out; omega)
  rw [← hN] at hval
  obtain ⟨⟨x0, hx0⟩, ⟨y0, hy0⟩, z0, z1, hset⟩ := two_writes ho3 hgB j (by have := HN2.out; omega)
  obtain ⟨o4, b4⟩ := hset N ((N : Int) / 256) ((N : Int) % 256) hN2 (by simp) (by simp)
  have HO4 := Lib.hid o4
  have HB4 := Lib.hid b4
  have HV := Lib.hid hval
  clear hset o4 b4 hN hval
  go_wp2_with fail
  refine (valid_row HO4.out f5 _ HV.out (z := w3.heap.size) (by simp)).mono ?_
  rintro e w5 ⟨rfl, hb5⟩
  have hb6 := (hb.trans (hb3'.trans HB4.out)).trans (hb5.mono (by have := hb.size; omega))
  go_wp2_with fail
  refine (awake_any _ (HT.out.below hb6 hpos)).mono ?_
  rintro e w6 ⟨rfl, hb7⟩
  go_wp2
  go_ret
  exact ⟨rfl, hb6.trans (hb7.mono hb6.size)⟩
end Go.Proofs.YtkgfbehlcjjjnaaDoor.sumsHoldsDone
namespace Go.Proofs.YtkgfbehlcjjjnaaDoor.sumsHoldsDone
open Go.ChangeShapes Go.WideShapes Go.ChangeAt Go.RowKit Mem sum
set_option linter.unusedVariables false
theorem contract (H : Type) (enc : TypeId × Value → H) (W : World) (base : Nat) (args : Array Value) (ds gs : List (DataW H)) (before : List MemPlace)
    (hval : ∀ (j : Nat) t v, Tryd.f5.params[j]? = some t → args[j]? = some v → Value.okWide Tryd.prog W .any base t v)
    (hW : DataW.Whole enc Tryd.prog Tryd.f5.params.toList Rows.sumsHoldsSpec.vars false W args.toList ds gs before) (hL : laidMetH Tryd.prog Rows.sumsHoldsRow.laid W) :
    Calls Tryd.prog 5 args W fun e W' => ∃ v, e = .returned v ∧ Rows.sumsHoldsSpec.post enc Tryd.prog Tryd.f5 false true false false W args v W' := by
  have hW' := hW
  have hT : Tab W := table rfl hL
  obtain ⟨p, q, hA0, hV, rfl, hfz, hnd⟩ := hW
  have hA : DataW.TrodAll enc Tryd.prog W 0 (fun _ => true) true Tryd.f5.params.toList args.toList ds p := hA0
  rw [Tryd.params5] at hA hval
  obtain ⟨v0, vs0, d0, ds0, p0, q0, hargs, rfl, rfl, h0, r0⟩ := trodAll_cons hA
  obtain ⟨v1, vs1, d1, ds1, p1, q1, rfl, rfl, rfl, h1, r1⟩ := trodAll_cons r0
  obtain ⟨rfl, rfl, rfl⟩ := trodAll_nil r1
  obtain rfl : args = #[v0, v1] := by cases args; simp_all
  obtain ⟨rfl, rfl⟩ := trodVars_none hV
  obtain ⟨a0, n0, c0, rfl⟩ := okWide_slice Tryd.underlying31 (hval 0 31 v0 rfl rfl)
  have k0 := h0
  have lt0 : ∀ x ∈ p0, x.block < W.heap.size := by obtain ⟨m, hm⟩ := k0; exact DataW.trod_lt m _ _ _ hm
  obtain ⟨l0, w0, m0, b0⟩ : ∃ l : List UInt8, Rd W W.heap.size a0 n0 (bv l) ∧ n0 ≤ c0 ∧ n0 ≤ 9223372036854775807 := by
    obtain ⟨fuel, hf⟩ := h0
    rcases open_ints Tryd.underlying31 Tryd.underlying5 (by kernel_rfl) hf with ⟨hcs, _⟩ | ⟨x, l, c, zs, hcs, _, hl, hm, hz, _, hcell, hwz⟩
    · simp [Value.cells] at hcs
      obtain ⟨rfl, rfl, rfl⟩ := hcs
      exact ⟨[], Rd.nil _ _ _, Nat.le_refl _, by omega⟩
    · simp [Value.cells] at hcs
      obtain ⟨rfl, rfl, rfl⟩ := hcs
      unfold maxLen at hm
      obtain ⟨l, hl2⟩ := rd_bytes hl (by simpa using hz) hcell hwz
      exact ⟨l, hl2, hl, by omega⟩
  obtain ⟨a1, rfl, rfl, rfl, w1⟩ := open_int Tryd.underlying3 (hval 1 3 v1 rfl rfl) h1
  clear hA0 hval
  refine (walk a0 n0 c0 l0 a1 W hT w0 m0 b0 w1).mono fun e W' ⟨he, bel⟩ => ?_
  subst he
  exact ⟨_, rfl, _, _, _, [], _, [], hW', trodAll_mk1 (shut_bool Tryd.underlying4 _), (trodAll_cons_mk (Below.trod laidOut (by kernel_rfl) (of_decide_eq_true (by kernel_rfl)) k0 bel lt0) (trodAll_cons_mk (shut_int Tryd.underlying3 w1) trodAll_mk0)), rfl, bel.frame _, fun h => by cases h⟩

theorem laid_met (os : Os) : laidMet Tryd.prog Rows.sumsHoldsRow.laid ((laidWorld os).forCall (fun _ _ => 0) ⟨#[], #[.slice none 0 0, .int .i64 0], []⟩).memory :=
  laidMet_of_run' 8 (by kernel_rfl) (by kernel_rfl)
theorem reads (os : Os) {H : Type} (enc : TypeId × Value → H) : ∃ places, DataW.whole enc Tryd.prog ((laidWorld os).forCall (fun _ _ => 0) ⟨#[], #[.slice none 0 0, .int .i64 0], []⟩).memory Tryd.f5.params.toList Rows.sumsHoldsSpec.vars false (#[.slice none 0 0, .int .i64 0] : Array Value).toList 8 = some ([.nil, .lit (.int .i64 0)], [], places) :=
  ⟨[], by kernel_rfl⟩
set_option maxRecDepth 100000 in
theorem lifted (os : Os) (started : os.Started) (H : Type) (enc : TypeId × Value → H) (F : Stop.Interp) :
    ReturnsInHanded {} Tryd.checked os 5 .any ((OpenSpec.ofChange Rows.sumsHoldsSpec).preRow enc Tryd.prog Tryd.f5 Rows.sumsHoldsRow.domain false Rows.sumsHoldsRow.laid) (((OpenSpec.ofChange Rows.sumsHoldsSpec).at F).post enc Tryd.prog Tryd.f5 false true false false) := by
  obtain ⟨places, hx⟩ := reads os enc
  refine returnsInHanded_of_row (C := Tryd.checked) (s := OpenSpec.ofChange Rows.sumsHoldsSpec) own started (by kernel_rfl) Tryd.func5
    (witness_row_at (enc := enc) (C := Tryd.checked) false (laidWorld os) #[.slice none 0 0, .int .i64 0] rfl (by kernel_rfl) (by kernel_rfl) (by kernel_rfl)
      (OpenSpec.preRow_of_cond 8 hx (by kernel_rfl) (fun k hk => by cases hk) (by kernel_rfl) (laid_met os))) ?_
  intro W base args ds gs before hval hW _ _ _ hL _ _
  exact contract H enc W base args ds gs before hval hW hL
theorem said : Rows.SumsHoldsSaid :=
  OpenClaim.holds_of_cond 5 Tryd.f5 rfl rfl rfl rfl rfl rfl rfl ⟨rfl, rfl, rfl, rfl, rfl⟩ rfl rfl rfl rfl rfl (by kernel_rfl) Tryd.func5 (by kernel_rfl)
    (of_decide_eq_true (by kernel_rfl)) (by unfold Func.isWrapper; first | (rw [if_pos (by decide +kernel)]; kernel_rfl) | (rw [if_neg (by decide +kernel)]; exact ⟨rfl, rfl⟩))
    (fun os started H enc _ F => by rw [OpenClaim.pre_eq_preRow]; exact lifted os started H enc F)
theorem plain (f : FuncId) (fn : Func) (hf : Tryd.pinned.checked.prog.funcNamed "flume/flumelaw01.SumsHolds" = some f) (hfn : Tryd.pinned.checked.prog.funcs[f]? = some fn) :
    false = Tryd.pinned.checked.prog.looks [] ∧ ∀ (j : Nat) t, fn.params[j]? = some t → Tryd.pinned.checked.prog.wantsStandIn t = false := by
  obtain rfl : f = 5 := Option.some.inj ((show Tryd.prog.funcNamed "flume/flumelaw01.SumsHolds" = some 5 by kernel_rfl).symm.trans hf) |>.symm
  obtain rfl : fn = Tryd.f5 := (Option.some.inj (Tryd.func5.symm.trans hfn)).symm
  refine ⟨by kernel_rfl, fun j t ht => ?_⟩
  rw [Tryd.params5] at ht
  have hm : t ∈ [31, 3] := by simpa using Array.mem_of_getElem? ht
  have hall : ([31, 3].all fun u => !Tryd.prog.wantsStandIn u) = true := by kernel_rfl
  exact (show Tryd.prog.wantsStandIn t = false by simpa using List.all_eq_true.1 hall t hm)
/-- the given statement -/
theorem proved : Rows.SumsHoldsCardSaid :=
  Claim7.holds_tied_plain_at .later [] _ _ _ _ said (fun _ h => by cases h) (by kernel_rfl) (fun _ h => by cases h) sumsHolds_row_tie rfl ⟨rfl, rfl⟩ (by kernel_rfl) rfl plain (by kernel_rfl)
#print axioms proved
end Go.Proofs.YtkgfbehlcjjjnaaDoor.sumsHoldsDone
