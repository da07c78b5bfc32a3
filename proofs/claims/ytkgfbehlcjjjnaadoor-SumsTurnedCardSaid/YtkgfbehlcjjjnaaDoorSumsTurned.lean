/- SumsTurned: for every input the law answers true and leaves its arguments as they were; the table that the program lays is tied to its text. -/
import Derived.Test.YtkgfbehlcjjjnaaDoorSumF
import Derived.Test.YtkgfbehlcjjjnaaDoorSumG
import Derived.Test.YtkgfbehlcjjjnaaDoorBurst
import Derived.Test.YtkgfbehlcjjjnaaDoorSumD
namespace Go.Proofs.YtkgfbehlcjjjnaaDoor.sumsTurnedDone
open Go.RowKit Mem SM lib CM sum
open CM in
theorem turned (X : List UInt8) (i : Nat) (b u : UInt8) (hb : X[i]? = some b) (hne : b ≠ u) (hr : crcF ones X = rest4) : crcF ones (X.set i u) ≠ rest4 := by
  obtain ⟨hi, hbe⟩ := List.getElem?_eq_some_iff.1 hb
  have e1 : X = X.take i ++ b :: X.drop (i + 1) := by rw [← hbe, ← List.drop_eq_getElem_cons hi, List.take_append_drop]
  have e2 : X.set i u = X.take i ++ u :: X.drop (i + 1) := by rw [List.set_eq_take_append_cons_drop, if_pos hi]
  rw [e2, ← hr]
  conv => rhs; rw [e1]
  exact (one_byte _ _ _ _ hne _).symm
set_option maxHeartbeats 2000000 in
theorem walk (A : Option Addr) (n c : Nat) (l : List UInt8) (k x : Int) (w : World) (ht : Tab w) (h : Rd w w.heap.size A n (bv l)) (hc : n ≤ c) (hn : n ≤ 9223372036854775807) (_hk : (Lit.int .i64 k).wf = true) (_hx : (Lit.int .i64 x).wf = true) :
    Calls Tryd.prog 13 #[.slice A n c, .int .i64 k, .int .i64 x] w fun e w' => e = .returned (.bool true) ∧ Below w.heap.size w w' := by
  have hpos := ht.pos
  have HT := Lib.hid ht
  have Hl := Lib.hid h.len
  clear ht
  by_cases hbig : 65536 < n
  · go_enter Tryd.func13, Tryd.ntmps13
    go_wp2_with fail
    refine (awake_any _ HT.out).mono ?_
    rintro e w1 ⟨rfl, hb1⟩
    go_wp2
    go_ret
    exact ⟨rfl, hb1⟩
  obtain ⟨a, ha⟩ : ∃ a : Nat, IntKind.u64.wrap k = (a : Int) := ⟨(IntKind.u64.wrap k).toNat, by rw [Int.toNat_of_nonneg (wrap_u64_nonneg k)]⟩
  obtain ⟨xa, hxa⟩ : ∃ a : Nat, IntKind.u64.wrap x = (a : Int) := ⟨(IntKind.u64.wrap x).toNat, by rw [Int.toNat_of_nonneg (wrap_u64_nonneg x)]⟩
  obtain ⟨r, hr⟩ : ∃ r, r = xa % 255 := ⟨_, rfl⟩
  have hr2 : r < 255 := by omega
  have hr3 : (xa : Int) % 255 = (r : Int) := by omega
  obtain ⟨s, hs⟩ : ∃ s, s = a % 4 := ⟨_, rfl⟩
  have hs2 : s < 4 := by omega
  have hs3 : (a : Int) % 4 = (s : Int) := by omega
  clear hr hs
  go_enter Tryd.func13, Tryd.ntmps13
  go_wp2_with fail
  refine (seal_any A n c _ l _ h hc HT.out (Nat.le_refl _) (by omega)).mono ?_
  rintro e w1 ⟨A2, n2, c2, rfl, ho, hb⟩
  have hn2 : n2 = n + 4 := by have h1 := ho.len; have h2 := Hl.out; rw [bv_len] at h1 h2; rw [List.length_append] at h1; simp [le4] at h1; omega
  subst hn2
  obtain ⟨g, rfl, hgB, hgl⟩ := ho.at0 (by omega)
  have hc2 := ho.cap
  unfold maxLen at hc2
  obtain ⟨X, hX⟩ : ∃ X, X = l ++ le4 (crc l) := ⟨_, rfl⟩
  rw [← hX] at ho
  have hXl : X.length = n + 4 := by have := ho.len; rw [bv_len] at this; exact this
  obtain ⟨i, hi⟩ : ∃ i, i = a % (n + 4) := ⟨_, rfl⟩
  have hi2 : i < n + 4 := by rw [hi]; exact Nat.mod_lt _ (by omega)
  have hi3 : (a : Int) % ((n : Int) + 4) = (i : Int) := by rw [hi]; simp
  have hset := ho.set i (.int .u8 0) hi2
  have c1 := hset.2.2.1
  have z1 := hset.2.2.2
  obtain ⟨b, hbe⟩ : ∃ b, X[i]? = some b := ⟨_, List.getElem?_eq_getElem (by omega)⟩
  rw [show (bv X)[i]? = some (.int .u8 (b.toNat : Int)) from by simp [bv, hbe]] at c1
  obtain ⟨u, hu⟩ : ∃ u, u = b ^^^ UInt8.ofNat (1 + r) := ⟨_, rfl⟩
  have hub : b ≠ u := by rw [hu]; exact xor_other b (1 + r) (by omega) (by omega)
  have fx : bits BinOp.xor IntKind.u8 (b.toNat : Int) (1 + (r : Int)) = (u.toNat : Int) := by
    rw [hu]
    have := CM.u8_xor b (1 + r) (by omega)
    rw [← this]
    congr 1
  have f1 : (i : Int) < (n : Int) + 4 := by omega
  have f2 : i ≤ 65540 := by omega
  have HX := Lib.hid hX
  have HXL := Lib.hid hXl
  have HU := Lib.hid hu
  have HB := Lib.hid hbe
  clear hi hX hXl hu hbe hset
  go_wp2_with fail
  have s2 := (ho.set i (.int .u8 (u.toNat : Int)) hi2).1
  rw [← bv_set] at s2
  obtain ⟨Y, hY⟩ : ∃ Y, Y = X.set i u := ⟨_, rfl⟩
  have hYl : Y.length = n + 4 := by rw [hY, List.length_set]; exact HXL.out
  have hYr : CM.crcF CM.ones Y ≠ CM.rest4 := by rw [hY]; exact turned X i b u HB.out hub (by rw [HX.out]; exact CM.sealed_rest l)
  rw [← hY] at s2
  obtain ⟨t, b0, b1, b2, b3, hsp, htl⟩ := split_four hYl
  rw [hsp] at s2 hYr
  obtain ⟨d0, d1, d2, d3, hle⟩ := le4_four (CM.crc t)
  have hq : decide ([b0, b1, b2, b3] = [d0, d1, d2, d3]) = false := by rw [← hle]; exact decide_eq_false (CM.broken t _ _ _ _ hYr)
  have hbs : Below w.heap.size w (w1.setCell ⟨g, i, none⟩ (.int .u8 (u.toNat : Int))) := hb.setCell (p := ⟨g, i, none⟩) hgB _
  refine (open_bad _ _ _ n t b0 b1 b2 b3 _ s2.rd htl (by omega) (by omega) (HT.out.below hbs hpos) (Nat.le_refl _) (by omega) d0 d1 d2 d3 hle hq).mono ?_
  rintro e w3 ⟨rfl, hb3⟩
  have hb3' := hbs.trans (hb3.mono hbs.size)
  clear hbs hb3 hle hq hsp htl hYr hYl hY
  have g1 : (s : Int) ≤ (c2 : Int) := by omega
  have g2 : s ≤ c2 := by omega
  have g3 : (s : Int) ≤ (n : Int) + 4 := by omega
  clear c1 z1 fx
  go_wp2_with fail
  refine (open_short _ s _ _ hs2).mono ?_
  rintro e w4 ⟨rfl, rfl⟩
  go_wp2_with fail
  refine (awake_any _ (HT.out.below hb3' hpos)).mono ?_
  rintro e w6 ⟨rfl, hb7⟩
  go_wp2
  go_ret
  exact ⟨rfl, hb3'.trans (hb7.mono hb3'.size)⟩
end Go.Proofs.YtkgfbehlcjjjnaaDoor.sumsTurnedDone
namespace Go.Proofs.YtkgfbehlcjjjnaaDoor.sumsTurnedDone
open Go.ChangeShapes Go.WideShapes Go.ChangeAt Go.RowKit Mem sum
set_option linter.unusedVariables false
theorem contract (H : Type) (enc : TypeId × Value → H) (W : World) (base : Nat) (args : Array Value) (ds gs : List (DataW H)) (before : List MemPlace)
    (hval : ∀ (j : Nat) t v, Tryd.f13.params[j]? = some t → args[j]? = some v → Value.okWide Tryd.prog W .any base t v)
    (hW : DataW.Whole enc Tryd.prog Tryd.f13.params.toList Rows.sumsTurnedSpec.vars false W args.toList ds gs before) (hL : laidMetH Tryd.prog Rows.sumsTurnedRow.laid W) :
    Calls Tryd.prog 13 args W fun e W' => ∃ v, e = .returned v ∧ Rows.sumsTurnedSpec.post enc Tryd.prog Tryd.f13 false true false false W args v W' := by
  have hW' := hW
  have hT : Tab W := table rfl hL
  obtain ⟨p, q, hA0, hV, rfl, hfz, hnd⟩ := hW
  have hA : DataW.TrodAll enc Tryd.prog W 0 (fun _ => true) true Tryd.f13.params.toList args.toList ds p := hA0
  rw [Tryd.params13] at hA hval
  obtain ⟨v0, vs0, d0, ds0, p0, q0, hargs, rfl, rfl, h0, r0⟩ := trodAll_cons hA
  obtain ⟨v1, vs1, d1, ds1, p1, q1, rfl, rfl, rfl, h1, r1⟩ := trodAll_cons r0
  obtain ⟨v2, vs2, d2, ds2, p2, q2, rfl, rfl, rfl, h2, r2⟩ := trodAll_cons r1
  obtain ⟨rfl, rfl, rfl⟩ := trodAll_nil r2
  obtain rfl : args = #[v0, v1, v2] := by cases args; simp_all
  obtain ⟨rfl, rfl⟩ := trodVars_none hV
  obtain ⟨a0, n0, c0, rfl⟩ := okWide_slice Tryd.underlying31 (hval 0 31 v0 rfl rfl)
  have k0 := h0
  have lt0 : ∀ x ∈ p0, x.block < W.heap.size := by obtain ⟨m, hm⟩ := k0; exact DataW.trod_lt m _ _ _ hm
  obtain ⟨l0, w0, m0, b0⟩ : ∃ l : List UInt8, Rd W W.heap.size a0 n0 (bv l) ∧ n0 ≤ c0 ∧ n0 ≤ 9223372036854775807 := by
    obtain ⟨fuel, hf⟩ := h0
    rcases open_ints Tryd.underlying31 Tryd.underlying5 (by kernel_rfl) hf with ⟨hcs, _⟩ | ⟨x, l, c, zs, hcs, _, hl, hm, hz, _, hcell, hwz⟩
    · simp [Value.cells] at hcs
      obtain ⟨rfl, rfl, rfl⟩ := hcs
      exact ⟨[], Rd.nil _ _ _, Nat.le_refl _, by omega⟩
    · simp [Value.cells] at hcs
      obtain ⟨rfl, rfl, rfl⟩ := hcs
      unfold maxLen at hm
      obtain ⟨l, hl2⟩ := rd_bytes hl (by simpa using hz) hcell hwz
      exact ⟨l, hl2, hl, by omega⟩
  obtain ⟨a1, rfl, rfl, rfl, w1⟩ := open_int Tryd.underlying3 (hval 1 3 v1 rfl rfl) h1
  obtain ⟨a2, rfl, rfl, rfl, w2⟩ := open_int Tryd.underlying3 (hval 2 3 v2 rfl rfl) h2
  clear hA0 hval
  refine (walk a0 n0 c0 l0 a1 a2 W hT w0 m0 b0 w1 w2).mono fun e W' ⟨he, bel⟩ => ?_
  subst he
  exact ⟨_, rfl, _, _, _, [], _, [], hW', trodAll_mk1 (shut_bool Tryd.underlying4 _), (trodAll_cons_mk (Below.trod laidOut (by kernel_rfl) (of_decide_eq_true (by kernel_rfl)) k0 bel lt0) (trodAll_cons_mk (shut_int Tryd.underlying3 w1) (trodAll_cons_mk (shut_int Tryd.underlying3 w2) trodAll_mk0))), rfl, bel.frame _, fun h => by cases h⟩

theorem laid_met (os : Os) : laidMet Tryd.prog Rows.sumsTurnedRow.laid ((laidWorld os).forCall (fun _ _ => 0) ⟨#[], #[.slice none 0 0, .int .i64 0, .int .i64 0], []⟩).memory :=
  laidMet_of_run' 8 (by kernel_rfl) (by kernel_rfl)
theorem reads (os : Os) {H : Type} (enc : TypeId × Value → H) : ∃ places, DataW.whole enc Tryd.prog ((laidWorld os).forCall (fun _ _ => 0) ⟨#[], #[.slice none 0 0, .int .i64 0, .int .i64 0], []⟩).memory Tryd.f13.params.toList Rows.sumsTurnedSpec.vars false (#[.slice none 0 0, .int .i64 0, .int .i64 0] : Array Value).toList 8 = some ([.nil, .lit (.int .i64 0), .lit (.int .i64 0)], [], places) :=
  ⟨[], by kernel_rfl⟩
set_option maxRecDepth 100000 in
theorem lifted (os : Os) (started : os.Started) (H : Type) (enc : TypeId × Value → H) (F : Stop.Interp) :
    ReturnsInHanded {} Tryd.checked os 13 .any ((OpenSpec.ofChange Rows.sumsTurnedSpec).preRow enc Tryd.prog Tryd.f13 Rows.sumsTurnedRow.domain false Rows.sumsTurnedRow.laid) (((OpenSpec.ofChange Rows.sumsTurnedSpec).at F).post enc Tryd.prog Tryd.f13 false true false false) := by
  obtain ⟨places, hx⟩ := reads os enc
  refine returnsInHanded_of_row (C := Tryd.checked) (s := OpenSpec.ofChange Rows.sumsTurnedSpec) own started (by kernel_rfl) Tryd.func13
    (witness_row_at (enc := enc) (C := Tryd.checked) false (laidWorld os) #[.slice none 0 0, .int .i64 0, .int .i64 0] rfl (by kernel_rfl) (by kernel_rfl) (by kernel_rfl)
      (OpenSpec.preRow_of_cond 8 hx (by kernel_rfl) (fun k hk => by cases hk) (by kernel_rfl) (laid_met os))) ?_
  intro W base args ds gs before hval hW _ _ _ hL _ _
  exact contract H enc W base args ds gs before hval hW hL
theorem said : Rows.SumsTurnedSaid :=
  OpenClaim.holds_of_cond 13 Tryd.f13 rfl rfl rfl rfl rfl rfl rfl ⟨rfl, rfl, rfl, rfl, rfl⟩ rfl rfl rfl rfl rfl (by kernel_rfl) Tryd.func13 (by kernel_rfl)
    (of_decide_eq_true (by kernel_rfl)) (by unfold Func.isWrapper; first | (rw [if_pos (by decide +kernel)]; kernel_rfl) | (rw [if_neg (by decide +kernel)]; exact ⟨rfl, rfl⟩))
    (fun os started H enc _ F => by rw [OpenClaim.pre_eq_preRow]; exact lifted os started H enc F)
theorem plain (f : FuncId) (fn : Func) (hf : Tryd.pinned.checked.prog.funcNamed "flume/flumelaw01.SumsTurned" = some f) (hfn : Tryd.pinned.checked.prog.funcs[f]? = some fn) :
    false = Tryd.pinned.checked.prog.looks [] ∧ ∀ (j : Nat) t, fn.params[j]? = some t → Tryd.pinned.checked.prog.wantsStandIn t = false := by
  obtain rfl : f = 13 := Option.some.inj ((show Tryd.prog.funcNamed "flume/flumelaw01.SumsTurned" = some 13 by kernel_rfl).symm.trans hf) |>.symm
  obtain rfl : fn = Tryd.f13 := (Option.some.inj (Tryd.func13.symm.trans hfn)).symm
  refine ⟨by kernel_rfl, fun j t ht => ?_⟩
  rw [Tryd.params13] at ht
  have hm : t ∈ [31, 3, 3] := by simpa using Array.mem_of_getElem? ht
  have hall : ([31, 3, 3].all fun u => !Tryd.prog.wantsStandIn u) = true := by kernel_rfl
  exact (show Tryd.prog.wantsStandIn t = false by simpa using List.all_eq_true.1 hall t hm)
/-- the given statement -/
theorem proved : Rows.SumsTurnedCardSaid :=
  Claim7.holds_tied_plain_at .later [] _ _ _ _ said (fun _ h => by cases h) (by kernel_rfl) (fun _ h => by cases h) sumsTurned_row_tie rfl ⟨rfl, rfl⟩ (by kernel_rfl) rfl plain (by kernel_rfl)
#print axioms proved
end Go.Proofs.YtkgfbehlcjjjnaaDoor.sumsTurnedDone
