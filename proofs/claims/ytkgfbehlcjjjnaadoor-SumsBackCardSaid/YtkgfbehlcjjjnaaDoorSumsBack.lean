/- SumsBack: for every input the law answers true and leaves its arguments as they were; the table that the program lays is tied to its text. -/
import Derived.Test.YtkgfbehlcjjjnaaDoorSumF
import Derived.Test.YtkgfbehlcjjjnaaDoorSumH
import Derived.Test.YtkgfbehlcjjjnaaDoorSumD
namespace Go.Proofs.YtkgfbehlcjjjnaaDoor.sumsBackDone
open Go.RowKit Mem SM lib CM sum
theorem open_sealed {w w' : World} {l : List UInt8} {e : Ending} (h : OpenRes w (l ++ le4 (CM.crc l)) e w') : Opened w l e w' := by
  obtain ⟨hb, h | ⟨_, h, _⟩ | ⟨t, A, n, c, h1, h2, h3⟩⟩ := h
  · have := h.1; simp [le4] at this; omega
  · exact absurd rfl (h l)
  · have hl : l.length = t.length := by have := congrArg List.length h1; simp [le4] at this; omega
    obtain ⟨e1, _⟩ := List.append_inj h1 hl
    subst e1
    exact ⟨A, n, c, h2, h3, hb⟩
set_option maxHeartbeats 2000000 in
theorem walk (A : Option Addr) (n c : Nat) (l : List UInt8) (A0 : Option Addr) (n0 c0 : Nat) (m : List UInt8) (w : World) (ht : Tab w) (h : Rd w w.heap.size A n (bv l)) (hc : n ≤ c) (hn : n ≤ 9223372036854775807)
    (h0 : Rd w w.heap.size A0 n0 (bv m)) (hc0 : n0 ≤ c0) (hn0 : n0 ≤ 9223372036854775807) :
    Calls Tryd.prog 10 #[.slice A n c, .slice A0 n0 c0] w fun e w' => e = .returned (.bool true) ∧ Below w.heap.size w w' := by
  have hpos := ht.pos
  have HT := Lib.hid ht
  have Hl := Lib.hid h.len
  have Hm := Lib.hid h0.len
  clear ht
  by_cases hbig : 65536 < n
  · go_enter Tryd.func10, Tryd.ntmps10
    go_wp2_with fail
    refine (awake_any _ HT.out).mono ?_
    rintro e w1 ⟨rfl, hb1⟩
    go_wp2
    go_ret
    exact ⟨rfl, hb1⟩
  by_cases hbig0 : 65536 < n0
  · go_enter Tryd.func10, Tryd.ntmps10
    go_wp2_with fail
    refine (awake_any _ HT.out).mono ?_
    rintro e w1 ⟨rfl, hb1⟩
    go_wp2
    go_ret
    exact ⟨rfl, hb1⟩
  go_enter Tryd.func10, Tryd.ntmps10
  go_wp2_with fail
  refine (seal_any A n c _ l _ h hc HT.out (Nat.le_refl _) (by omega)).mono ?_
  rintro e w1 ⟨A2, n2, c2, rfl, ho, hb⟩
  have hn2 : n2 = n + 4 := by have h1 := ho.len; have h2 := Hl.out; rw [bv_len] at h1 h2; rw [List.length_append] at h1; simp [le4] at h1; omega
  subst hn2
  have hc2 := ho.cap
  unfold maxLen at hc2
  have hz := hb.size
  go_wp2_with fail
  refine (open_any A2 (n + 4) c2 w1.heap.size _ _ ho.rd (by omega) (HT.out.below hb hpos) (Nat.le_refl _) (by omega)).mono ?_
  intro e w2 hres
  obtain ⟨A3, n3, c3, rfl, ho3, hb3⟩ := open_sealed hres
  clear hres
  have hb3' := hb.trans (hb3.mono hz)
  have hz3 := hb3'.size
  go_wp2_with fail
  refine (open_any A0 n0 c0 w.heap.size m _ (h0.below hb3' (Nat.le_refl _)) hc0 (HT.out.below hb3' hpos) hz3 (by omega)).mono ?_
  rintro e w3 ⟨hb4, hres⟩
  have hb4' := hb3'.trans (hb4.mono hz3)
  have hz4 := hb4'.size
  have ho4 := ho3.below hb4 (Nat.le_refl _)
  have hce : ∀ (W : World), w3 = W → Calls Tryd.prog 28 #[.slice A3 n3 c3, .slice A n c] W fun e w' => e = .returned (.bool true) ∧ W = w' := by
    rintro W rfl
    have := equal_any A3 A n3 c3 n c w3.heap.size l l w3 ho4.rd ((h.below hb4' (Nat.le_refl _)).more hz4)
    rwa [decide_eq_true rfl] at this
  have HCE := Lib.hid hce
  clear hce
  rcases hres with ⟨hlt, rfl⟩ | ⟨hge, hno, rfl⟩ | ⟨t, A5, n5, c5, hme, rfl, ho5⟩
  · clear hlt
    go_wp2_with fail
    refine (HCE.out _ rfl).mono ?_
    rintro e w5 ⟨rfl, rfl⟩
    go_wp2_with fail
    refine (awake_any _ (HT.out.below hb4' hpos)).mono ?_
    rintro e w6 ⟨rfl, hb6⟩
    go_wp2
    go_ret
    exact ⟨rfl, hb4'.trans (hb6.mono hz4)⟩
  · clear hge hno
    go_wp2_with fail
    refine (HCE.out _ rfl).mono ?_
    rintro e w5 ⟨rfl, rfl⟩
    go_wp2_with fail
    refine (awake_any _ (HT.out.below hb4' hpos)).mono ?_
    rintro e w6 ⟨rfl, hb6⟩
    go_wp2
    go_ret
    exact ⟨rfl, hb4'.trans (hb6.mono hz4)⟩
  · have hn5 : n5 ≤ 1048576 := by
      have h1 := ho5.len
      have h2 := Hm.out
      rw [bv_len] at h1 h2
      rw [hme, List.length_append] at h2
      omega
    have hc5 := ho5.cap.1
    have HME := Lib.hid hme
    clear hme
    go_wp2_with fail
    refine (HCE.out _ rfl).mono ?_
    rintro e w5 ⟨rfl, rfl⟩
    go_wp2_with fail
    refine (seal_any A5 n5 c5 _ t _ ho5.rd hc5 (HT.out.below hb4' hpos) (Nat.le_refl _) hn5).mono ?_
    rintro e w6 ⟨A6, n6, c6, rfl, ho6, hb6⟩
    have hb6' := hb4'.trans (hb6.mono hz4)
    have hz6 := hb6'.size
    go_wp2_with fail
    refine (equal_any _ _ _ _ _ _ w6.heap.size (t ++ le4 (CM.crc t)) m _ ho6.rd ((h0.below hb6' (Nat.le_refl _)).more hz6)).mono ?_
    rintro e w7 ⟨rfl, rfl⟩
    rw [decide_eq_true HME.out.symm]
    go_wp2_with fail
    refine (awake_any _ (HT.out.below hb6' hpos)).mono ?_
    rintro e w8 ⟨rfl, hb8⟩
    go_wp2
    go_ret
    exact ⟨rfl, hb6'.trans (hb8.mono hz6)⟩
end Go.Proofs.YtkgfbehlcjjjnaaDoor.sumsBackDone
namespace Go.Proofs.YtkgfbehlcjjjnaaDoor.sumsBackDone
open Go.ChangeShapes Go.WideShapes Go.ChangeAt Go.RowKit Mem sum
set_option linter.unusedVariables false
theorem contract (H : Type) (enc : TypeId × Value → H) (W : World) (base : Nat) (args : Array Value) (ds gs : List (DataW H)) (before : List MemPlace)
    (hval : ∀ (j : Nat) t v, Tryd.f10.params[j]? = some t → args[j]? = some v → Value.okWide Tryd.prog W .any base t v)
    (hW : DataW.Whole enc Tryd.prog Tryd.f10.params.toList Rows.sumsBackSpec.vars false W args.toList ds gs before) (hL : laidMetH Tryd.prog Rows.sumsBackRow.laid W) :
    Calls Tryd.prog 10 args W fun e W' => ∃ v, e = .returned v ∧ Rows.sumsBackSpec.post enc Tryd.prog Tryd.f10 false true false false W args v W' := by
  have hW' := hW
  have hT : Tab W := table rfl hL
  obtain ⟨p, q, hA0, hV, rfl, hfz, hnd⟩ := hW
  have hA : DataW.TrodAll enc Tryd.prog W 0 (fun _ => true) true Tryd.f10.params.toList args.toList ds p := hA0
  rw [Tryd.params10] at hA hval
  obtain ⟨v0, vs0, d0, ds0, p0, q0, hargs, rfl, rfl, h0, r0⟩ := trodAll_cons hA
  obtain ⟨v1, vs1, d1, ds1, p1, q1, rfl, rfl, rfl, h1, r1⟩ := trodAll_cons r0
  obtain ⟨rfl, rfl, rfl⟩ := trodAll_nil r1
  obtain rfl : args = #[v0, v1] := by cases args; simp_all
  obtain ⟨rfl, rfl⟩ := trodVars_none hV
  obtain ⟨a0, n0, c0, rfl⟩ := okWide_slice Tryd.underlying31 (hval 0 31 v0 rfl rfl)
  have k0 := h0
  have lt0 : ∀ x ∈ p0, x.block < W.heap.size := by obtain ⟨m, hm⟩ := k0; exact DataW.trod_lt m _ _ _ hm
  obtain ⟨l0, w0, m0, b0⟩ : ∃ l : List UInt8, Rd W W.heap.size a0 n0 (bv l) ∧ n0 ≤ c0 ∧ n0 ≤ 9223372036854775807 := by
    obtain ⟨fuel, hf⟩ := h0
    rcases open_ints Tryd.underlying31 Tryd.underlying5 (by kernel_rfl) hf with ⟨hcs, _⟩ | ⟨x, l, c, zs, hcs, _, hl, hm, hz, _, hcell, hwz⟩
    · simp [Value.cells] at hcs
      obtain ⟨rfl, rfl, rfl⟩ := hcs
      exact ⟨[], Rd.nil _ _ _, Nat.le_refl _, by omega⟩
    · simp [Value.cells] at hcs
      obtain ⟨rfl, rfl, rfl⟩ := hcs
      unfold maxLen at hm
      obtain ⟨l, hl2⟩ := rd_bytes hl (by simpa using hz) hcell hwz
      exact ⟨l, hl2, hl, by omega⟩
  obtain ⟨a1, n1, c1, rfl⟩ := okWide_slice Tryd.underlying31 (hval 1 31 v1 rfl rfl)
  have k1 := h1
  have lt1 : ∀ x ∈ p1, x.block < W.heap.size := by obtain ⟨m, hm⟩ := k1; exact DataW.trod_lt m _ _ _ hm
  obtain ⟨l1, w1, m1, b1⟩ : ∃ l : List UInt8, Rd W W.heap.size a1 n1 (bv l) ∧ n1 ≤ c1 ∧ n1 ≤ 9223372036854775807 := by
    obtain ⟨fuel, hf⟩ := h1
    rcases open_ints Tryd.underlying31 Tryd.underlying5 (by kernel_rfl) hf with ⟨hcs, _⟩ | ⟨x, l, c, zs, hcs, _, hl, hm, hz, _, hcell, hwz⟩
    · simp [Value.cells] at hcs
      obtain ⟨rfl, rfl, rfl⟩ := hcs
      exact ⟨[], Rd.nil _ _ _, Nat.le_refl _, by omega⟩
    · simp [Value.cells] at hcs
      obtain ⟨rfl, rfl, rfl⟩ := hcs
      unfold maxLen at hm
      obtain ⟨l, hl2⟩ := rd_bytes hl (by simpa using hz) hcell hwz
      exact ⟨l, hl2, hl, by omega⟩
  clear hA0 hval
  refine (walk a0 n0 c0 l0 a1 n1 c1 l1 W hT w0 m0 b0 w1 m1 b1).mono fun e W' ⟨he, bel⟩ => ?_
  subst he
  exact ⟨_, rfl, _, _, _, [], _, [], hW', trodAll_mk1 (shut_bool Tryd.underlying4 _), (trodAll_cons_mk (Below.trod laidOut (by kernel_rfl) (of_decide_eq_true (by kernel_rfl)) k0 bel lt0) (trodAll_cons_mk (Below.trod laidOut (by kernel_rfl) (of_decide_eq_true (by kernel_rfl)) k1 bel lt1) trodAll_mk0)), rfl, bel.frame _, fun h => by cases h⟩

theorem laid_met (os : Os) : laidMet Tryd.prog Rows.sumsBackRow.laid ((laidWorld os).forCall (fun _ _ => 0) ⟨#[], #[.slice none 0 0, .slice none 0 0], []⟩).memory :=
  laidMet_of_run' 8 (by kernel_rfl) (by kernel_rfl)
theorem reads (os : Os) {H : Type} (enc : TypeId × Value → H) : ∃ places, DataW.whole enc Tryd.prog ((laidWorld os).forCall (fun _ _ => 0) ⟨#[], #[.slice none 0 0, .slice none 0 0], []⟩).memory Tryd.f10.params.toList Rows.sumsBackSpec.vars false (#[.slice none 0 0, .slice none 0 0] : Array Value).toList 8 = some ([.nil, .nil], [], places) :=
  ⟨[], by kernel_rfl⟩
set_option maxRecDepth 100000 in
theorem lifted (os : Os) (started : os.Started) (H : Type) (enc : TypeId × Value → H) (F : Stop.Interp) :
    ReturnsInHanded {} Tryd.checked os 10 .any ((OpenSpec.ofChange Rows.sumsBackSpec).preRow enc Tryd.prog Tryd.f10 Rows.sumsBackRow.domain false Rows.sumsBackRow.laid) (((OpenSpec.ofChange Rows.sumsBackSpec).at F).post enc Tryd.prog Tryd.f10 false true false false) := by
  obtain ⟨places, hx⟩ := reads os enc
  refine returnsInHanded_of_row (C := Tryd.checked) (s := OpenSpec.ofChange Rows.sumsBackSpec) own started (by kernel_rfl) Tryd.func10
    (witness_row_at (enc := enc) (C := Tryd.checked) false (laidWorld os) #[.slice none 0 0, .slice none 0 0] rfl (by kernel_rfl) (by kernel_rfl) (by kernel_rfl)
      (OpenSpec.preRow_of_cond 8 hx (by kernel_rfl) (fun k hk => by cases hk) (by kernel_rfl) (laid_met os))) ?_
  intro W base args ds gs before hval hW _ _ _ hL _ _
  exact contract H enc W base args ds gs before hval hW hL
theorem said : Rows.SumsBackSaid :=
  OpenClaim.holds_of_cond 10 Tryd.f10 rfl rfl rfl rfl rfl rfl rfl ⟨rfl, rfl, rfl, rfl, rfl⟩ rfl rfl rfl rfl rfl (by kernel_rfl) Tryd.func10 (by kernel_rfl)
    (of_decide_eq_true (by kernel_rfl)) (by unfold Func.isWrapper; first | (rw [if_pos (by decide +kernel)]; kernel_rfl) | (rw [if_neg (by decide +kernel)]; exact ⟨rfl, rfl⟩))
    (fun os started H enc _ F => by rw [OpenClaim.pre_eq_preRow]; exact lifted os started H enc F)
theorem plain (f : FuncId) (fn : Func) (hf : Tryd.pinned.checked.prog.funcNamed "flume/flumelaw01.SumsBack" = some f) (hfn : Tryd.pinned.checked.prog.funcs[f]? = some fn) :
    false = Tryd.pinned.checked.prog.looks [] ∧ ∀ (j : Nat) t, fn.params[j]? = some t → Tryd.pinned.checked.prog.wantsStandIn t = false := by
  obtain rfl : f = 10 := Option.some.inj ((show Tryd.prog.funcNamed "flume/flumelaw01.SumsBack" = some 10 by kernel_rfl).symm.trans hf) |>.symm
  obtain rfl : fn = Tryd.f10 := (Option.some.inj (Tryd.func10.symm.trans hfn)).symm
  refine ⟨by kernel_rfl, fun j t ht => ?_⟩
  rw [Tryd.params10] at ht
  have hm : t ∈ [31, 31] := by simpa using Array.mem_of_getElem? ht
  have hall : ([31, 31].all fun u => !Tryd.prog.wantsStandIn u) = true := by kernel_rfl
  exact (show Tryd.prog.wantsStandIn t = false by simpa using List.all_eq_true.1 hall t hm)
/-- the given statement -/
theorem proved : Rows.SumsBackCardSaid :=
  Claim7.holds_tied_plain_at .later [] _ _ _ _ said (fun _ h => by cases h) (by kernel_rfl) (fun _ h => by cases h) sumsBack_row_tie rfl ⟨rfl, rfl⟩ (by kernel_rfl) rfl plain (by kernel_rfl)
#print axioms proved
end Go.Proofs.YtkgfbehlcjjjnaaDoor.sumsBackDone
