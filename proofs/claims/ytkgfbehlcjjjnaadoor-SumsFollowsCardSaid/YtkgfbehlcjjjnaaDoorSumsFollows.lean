/- SumsFollows: for every input the law answers true and leaves its arguments as they were; the table that the program lays is tied to its text. -/
import Derived.Test.YtkgfbehlcjjjnaaDoorSumF
import Derived.Test.YtkgfbehlcjjjnaaDoorSumD
namespace Go.Proofs.YtkgfbehlcjjjnaaDoor.sumsFollowsDone
open Go.RowKit Mem SM lib CM sum
set_option maxHeartbeats 1000000 in
theorem walk (A : Option Addr) (n c : Nat) (l : List UInt8) (k v : Int) (w : World) (ht : Tab w) (h : Rd w w.heap.size A n (bv l)) (hc : n ≤ c) (hn : n ≤ 9223372036854775807) (_hk : (Lit.int .i64 k).wf = true) (hv : (Lit.int .u16 v).wf = true) :
    Calls Tryd.prog 7 #[.slice A n c, .int .i64 k, .int .u16 v] w fun e w' => e = .returned (.bool true) ∧ Below w.heap.size w w' := by
  have b3 : 0 ≤ v ∧ v ≤ 65535 := by simpa [Lit.wf, IntKind.min, IntKind.max, IntKind.signed, IntKind.bits] using hv
  obtain ⟨v, rfl⟩ := Int.eq_ofNat_of_zero_le b3.1
  have hv2 : v ≤ 65535 := by omega
  clear hv b3
  have hpos := ht.pos
  have HT := Lib.hid ht
  have Hl := Lib.hid h.len
  clear ht
  by_cases hbig : 65536 < n
  · go_enter Tryd.func7, Tryd.ntmps7
    go_wp2_with fail
    refine (awake_any _ HT.out).mono ?_
    rintro e w1 ⟨rfl, hb1⟩
    go_wp2
    go_ret
    exact ⟨rfl, hb1⟩
  by_cases hsmall : n < 4
  · go_enter Tryd.func7, Tryd.ntmps7
    go_wp2_with fail
    refine (awake_any _ HT.out).mono ?_
    rintro e w1 ⟨rfl, hb1⟩
    go_wp2
    go_ret
    exact ⟨rfl, hb1⟩
  obtain ⟨m2, hm2⟩ : ∃ m2, m2 = n / 2 := ⟨_, rfl⟩
  have f1 : (n : Int) / 2 = (m2 : Int) := by omega
  have hm3 : 2 ≤ m2 ∧ m2 ≤ 32768 := by omega
  have hm4 : 2 * m2 ≤ n := by omega
  have HM := Lib.hid hm2
  clear hm2
  obtain ⟨hm3a, hm3b⟩ := hm3
  obtain ⟨a, ha⟩ : ∃ a : Nat, IntKind.u64.wrap k = (a : Int) := ⟨(IntKind.u64.wrap k).toNat, by rw [Int.toNat_of_nonneg (wrap_u64_nonneg k)]⟩
  obtain ⟨j0, hj⟩ : ∃ j, j = a % (m2 - 1) := ⟨_, rfl⟩
  have hj0 : j0 + 1 < m2 := by have : a % (m2 - 1) < m2 - 1 := Nat.mod_lt _ (by omega); omega
  have f3 : ((a : Int) % ((m2 : Int) - 1)) = (j0 : Int) := by rw [hj, show ((m2 : Int) - 1) = ((m2 - 1 : Nat) : Int) from by omega]; simp
  obtain ⟨j, hje⟩ : ∃ j, j = j0 + 1 := ⟨_, rfl⟩
  have i1 : (2 + 2 * (j0 : Int)).toNat = 2 * j := by omega
  have i2 : (2 + 2 * (j0 : Int) + 1).toNat = 2 * j + 1 := by omega
  have hjlt : j < m2 := by omega
  have hjpos : 0 < j := by omega
  have HJ := Lib.hid hje
  clear hj hje
  go_enter Tryd.func7, Tryd.ntmps7
  go_wp2_with (refine wp_cut_h u8ty rfl (.tmp 19) (.tmp 23) rfl rfl rfl h (by omega) (by omega) hc ?_; intro A1 n1 hn1 hr1; have HN1 := Lib.hid hn1; clear hn1)
  rw [show ((m2 : Int) * 2).toNat = 2 * m2 from by omega, ← bv_take] at hr1
  refine (clone_any _ _ _ _ _ _ hr1 (Nat.le_refl _) (by have := HN1.out; omega)).mono ?_
  rintro e w1 ⟨A2, n2, c2, rfl, ho, hb⟩
  have hn2 : n2 = 2 * m2 := by have h1 := ho.len; have h2 := Hl.out; rw [bv_len, List.length_take] at h1; rw [bv_len] at h2; omega
  have f4 : (n2 : Int) / 2 = (m2 : Int) := by omega
  have f5 : n2 ≤ 65536 := by omega
  have f6 : 4 ≤ n2 := by omega
  have HN2 := Lib.hid hn2
  clear hn2
  obtain ⟨g, rfl, hgB, hgl⟩ := ho.at0 (by omega)
  obtain ⟨l2, hl2e⟩ : ∃ l2, l2 = l.take (2 * m2) := ⟨_, rfl⟩
  rw [← hl2e] at ho
  have hl2 : l2.length = n2 := by have := ho.len; rw [bv_len] at this; exact this
  have HL2 := Lib.hid hl2
  clear hl2 hl2e
  obtain ⟨⟨x0, hx0⟩, ⟨y0, hy0⟩, z0, z1, hset⟩ := two_writes ho hgB 0 (by omega)
  obtain ⟨o2, b2⟩ := hset 0 0 0 (by omega) rfl rfl
  simp only [Nat.mul_zero, Nat.zero_add] at hx0 hy0 z0 z1 o2 b2
  have HO2 := Lib.hid o2
  have HB2 := Lib.hid b2
  clear hset o2 b2
  go_wp2_with fail
  refine (inet_row HO2.out f5 _ (z := w1.heap.size) (by simp)).mono ?_
  rintro e w3 ⟨rfl, ho3, hb3⟩
  have hb3' := HB2.out.trans (hb3.mono (by omega))
  have hz3 := hb3'.size
  clear hb3 HO2 HB2 hx0 hy0 z0 z1
  obtain ⟨N, hN⟩ : ∃ N, N = inet [put2 l2 0 0] := ⟨_, rfl⟩
  rw [← hN]
  have hN2 : N ≤ 65535 := by rw [hN]; unfold inet; omega
  have hval := follows_valid l2 j v (by have := HL2.out; have := HN2.out; omega) hjpos hv2
  rw [← hN] at hval
  have hpl : (put2 l2 0 0).length = n2 := by rw [put2_len]; exact HL2.out
  have c1 := ho3.rd.at_ (show 2 * j < n2 by have := HN2.out; omega)
  have c2' := ho3.rd.at_ (show 2 * j + 1 < n2 by have := HN2.out; omega)
  obtain ⟨b1, o1, e1, _, hc1⟩ := c1
  obtain ⟨b1', o1', e1', _, hc2⟩ := c2'
  have e2 : g = b1 ∧ 0 = o1 := by simpa using e1
  have e3 : g = b1' ∧ 0 = o1' := by simpa using e1'
  rw [← e2.1, ← e2.2] at hc1
  rw [← e3.1, ← e3.2] at hc2
  clear e1 e1' e2 e3
  have hj2 : 2 * j + 1 < (put2 l2 0 0).length := by rw [hpl]; have := HN2.out; omega
  rw [bv_at _ (2 * j) (by omega), Nat.zero_add] at hc1
  rw [bv_at _ (2 * j + 1) hj2, Nat.zero_add] at hc2
  have hwd : wd (put2 l2 0 0) j = 256 * ((put2 l2 0 0)[2 * j]).toNat + ((put2 l2 0 0)[2 * j + 1]).toNat := by
    unfold wd
    rw [List.getD_eq_getElem?_getD, List.getD_eq_getElem?_getD, List.getElem?_eq_getElem (by omega), List.getElem?_eq_getElem hj2]
    rfl
  obtain ⟨p, hp⟩ : ∃ p, p = ((put2 l2 0 0)[2 * j]).toNat := ⟨_, rfl⟩
  obtain ⟨q, hq⟩ : ∃ q, q = ((put2 l2 0 0)[2 * j + 1]).toNat := ⟨_, rfl⟩
  have hp8 : p < 256 := by rw [hp]; exact UInt8.toNat_lt _
  have hq8 : q < 256 := by rw [hq]; exact UInt8.toNat_lt _
  rw [← hp] at hc1 hwd
  rw [← hq] at hc2 hwd
  obtain ⟨o, hoe⟩ : ∃ o, o = wd (put2 l2 0 0) j := ⟨_, rfl⟩
  rw [← hoe] at hval hwd
  have ho16 : o ≤ 65535 := by omega
  have hor : bits BinOp.or IntKind.u16 ((p : Int) * 256) (q : Int) = (o : Int) := by
    have e : ((p : Int) * 256) = ((2 ^ 8 * p : Nat) : Int) := by simp; omega
    rw [e, u16_or_nat _ _ (by omega) (by omega), ← Nat.two_pow_add_eq_or_of_lt (i := 8) (by omega) p, hwd]
  obtain ⟨u, hu⟩ : ∃ u, u = upd N o v := ⟨_, rfl⟩
  rw [← hu] at hval
  have hu2 : u ≤ 65535 := by rw [hu]; unfold upd; omega
  have HU := Lib.hid hu
  have HV := Lib.hid hval
  have i3 : 2 + 2 * (j0 : Int) < (n2 : Int) := by have := HN2.out; have := HJ.out; omega
  have i4 : 2 + 2 * (j0 : Int) + 1 < (n2 : Int) := by have := HN2.out; have := HJ.out; omega
  have k1 : IntKind.i64.wrap (2 + 2 * (j0 : Int) + 1) = 2 + 2 * (j0 : Int) + 1 := IntWalk.i64_in _ (by omega)
  have qu : ∀ a : Nat, Calls Tryd.prog 19 #[.int .u16 (N : Int), .int .u16 (o : Int), .int .u16 (v : Int)] (w3.drewN a) fun e w'' => e = .returned (.int .u16 (u : Int)) ∧ ∃ m, w'' = w3.drewN m := fun a =>
    (update_any N o v _ hN2 ho16 hv2).mono fun e w'' hh => ⟨by rw [hh.1, HU.out], a, hh.2.symm⟩
  clear hN hu hoe hwd hp hq hval hpl hj2
  go_wp2_with fail
  go_quiet ((go_at_call 19; exact qu _))
  generalize hw4 : World.drewN w3 _ = w4
  have ho4 : Ow w4 w.heap.size 5 (some ⟨g, 0, none⟩) n2 c2 (bv (put2 l2 0 0)) := by rw [← hw4]; exact ho3.drewN _
  have hb4 : Below w.heap.size w1 w4 := by rw [← hw4]; exact below_drewN hb3' _
  clear hw4 ho3 hb3' hc1 hc2 qu
  obtain ⟨⟨x0, hx0⟩, ⟨y0, hy0⟩, z0, z1, hset⟩ := two_writes ho4 hgB j (by have := HN2.out; omega)
  obtain ⟨o4, b4⟩ := hset v ((v : Int) / 256) ((v : Int) % 256) hv2 (by simp) (by simp)
  obtain ⟨⟨x5, hx5⟩, ⟨y5, hy5⟩, z5, z6, hset5⟩ := two_writes o4 hgB 0 (by omega)
  obtain ⟨o6, b6⟩ := hset5 u ((u : Int) / 256) ((u : Int) % 256) hu2 (by simp) (by simp)
  simp only [Nat.mul_zero, Nat.zero_add] at hx5 hy5 z5 z6 o6 b6
  have HO6 := Lib.hid o6
  have HB6 := Lib.hid (b4.trans b6)
  clear hset hset5 o4 b4 o6 b6
  go_wp2_with fail
  refine (valid_row HO6.out f5 _ HV.out (z := w4.heap.size) (by simp)).mono ?_
  rintro e w5 ⟨rfl, hb5⟩
  have hb6 := (hb.trans (hb4.trans HB6.out)).trans (hb5.mono (by have := hb.size; have := hb4.size; omega))
  clear hx0 hy0 z0 z1 hx5 hy5 z5 z6
  go_wp2_with fail
  refine (awake_any _ (HT.out.below hb6 hpos)).mono ?_
  rintro e w6 ⟨rfl, hb7⟩
  go_wp2
  go_ret
  exact ⟨rfl, hb6.trans (hb7.mono hb6.size)⟩
end Go.Proofs.YtkgfbehlcjjjnaaDoor.sumsFollowsDone
namespace Go.Proofs.YtkgfbehlcjjjnaaDoor.sumsFollowsDone
open Go.ChangeShapes Go.WideShapes Go.ChangeAt Go.RowKit Mem sum
set_option linter.unusedVariables false
theorem contract (H : Type) (enc : TypeId × Value → H) (W : World) (base : Nat) (args : Array Value) (ds gs : List (DataW H)) (before : List MemPlace)
    (hval : ∀ (j : Nat) t v, Tryd.f7.params[j]? = some t → args[j]? = some v → Value.okWide Tryd.prog W .any base t v)
    (hW : DataW.Whole enc Tryd.prog Tryd.f7.params.toList Rows.sumsFollowsSpec.vars false W args.toList ds gs before) (hL : laidMetH Tryd.prog Rows.sumsFollowsRow.laid W) :
    Calls Tryd.prog 7 args W fun e W' => ∃ v, e = .returned v ∧ Rows.sumsFollowsSpec.post enc Tryd.prog Tryd.f7 false true false false W args v W' := by
  have hW' := hW
  have hT : Tab W := table rfl hL
  obtain ⟨p, q, hA0, hV, rfl, hfz, hnd⟩ := hW
  have hA : DataW.TrodAll enc Tryd.prog W 0 (fun _ => true) true Tryd.f7.params.toList args.toList ds p := hA0
  rw [Tryd.params7] at hA hval
  obtain ⟨v0, vs0, d0, ds0, p0, q0, hargs, rfl, rfl, h0, r0⟩ := trodAll_cons hA
  obtain ⟨v1, vs1, d1, ds1, p1, q1, rfl, rfl, rfl, h1, r1⟩ := trodAll_cons r0
  obtain ⟨v2, vs2, d2, ds2, p2, q2, rfl, rfl, rfl, h2, r2⟩ := trodAll_cons r1
  obtain ⟨rfl, rfl, rfl⟩ := trodAll_nil r2
  obtain rfl : args = #[v0, v1, v2] := by cases args; simp_all
  obtain ⟨rfl, rfl⟩ := trodVars_none hV
  obtain ⟨a0, n0, c0, rfl⟩ := okWide_slice Tryd.underlying31 (hval 0 31 v0 rfl rfl)
  have k0 := h0
  have lt0 : ∀ x ∈ p0, x.block < W.heap.size := by obtain ⟨m, hm⟩ := k0; exact DataW.trod_lt m _ _ _ hm
  obtain ⟨l0, w0, m0, b0⟩ : ∃ l : List UInt8, Rd W W.heap.size a0 n0 (bv l) ∧ n0 ≤ c0 ∧ n0 ≤ 9223372036854775807 := by
    obtain ⟨fuel, hf⟩ := h0
    rcases open_ints Tryd.underlying31 Tryd.underlying5 (by kernel_rfl) hf with ⟨hcs, _⟩ | ⟨x, l, c, zs, hcs, _, hl, hm, hz, _, hcell, hwz⟩
    · simp [Value.cells] at hcs
      obtain ⟨rfl, rfl, rfl⟩ := hcs
      exact ⟨[], Rd.nil _ _ _, Nat.le_refl _, by omega⟩
    · simp [Value.cells] at hcs
      obtain ⟨rfl, rfl, rfl⟩ := hcs
      unfold maxLen at hm
      obtain ⟨l, hl2⟩ := rd_bytes hl (by simpa using hz) hcell hwz
      exact ⟨l, hl2, hl, by omega⟩
  obtain ⟨a1, rfl, rfl, rfl, w1⟩ := open_int Tryd.underlying3 (hval 1 3 v1 rfl rfl) h1
  obtain ⟨a2, rfl, rfl, rfl, w2⟩ := open_int Tryd.underlying25 (hval 2 25 v2 rfl rfl) h2
  clear hA0 hval
  refine (walk a0 n0 c0 l0 a1 a2 W hT w0 m0 b0 w1 w2).mono fun e W' ⟨he, bel⟩ => ?_
  subst he
  exact ⟨_, rfl, _, _, _, [], _, [], hW', trodAll_mk1 (shut_bool Tryd.underlying4 _), (trodAll_cons_mk (Below.trod laidOut (by kernel_rfl) (of_decide_eq_true (by kernel_rfl)) k0 bel lt0) (trodAll_cons_mk (shut_int Tryd.underlying3 w1) (trodAll_cons_mk (shut_int Tryd.underlying25 w2) trodAll_mk0))), rfl, bel.frame _, fun h => by cases h⟩

theorem laid_met (os : Os) : laidMet Tryd.prog Rows.sumsFollowsRow.laid ((laidWorld os).forCall (fun _ _ => 0) ⟨#[], #[.slice none 0 0, .int .i64 0, .int .u16 0], []⟩).memory :=
  laidMet_of_run' 8 (by kernel_rfl) (by kernel_rfl)
theorem reads (os : Os) {H : Type} (enc : TypeId × Value → H) : ∃ places, DataW.whole enc Tryd.prog ((laidWorld os).forCall (fun _ _ => 0) ⟨#[], #[.slice none 0 0, .int .i64 0, .int .u16 0], []⟩).memory Tryd.f7.params.toList Rows.sumsFollowsSpec.vars false (#[.slice none 0 0, .int .i64 0, .int .u16 0] : Array Value).toList 8 = some ([.nil, .lit (.int .i64 0), .lit (.int .u16 0)], [], places) :=
  ⟨[], by kernel_rfl⟩
set_option maxRecDepth 100000 in
theorem lifted (os : Os) (started : os.Started) (H : Type) (enc : TypeId × Value → H) (F : Stop.Interp) :
    ReturnsInHanded {} Tryd.checked os 7 .any ((OpenSpec.ofChange Rows.sumsFollowsSpec).preRow enc Tryd.prog Tryd.f7 Rows.sumsFollowsRow.domain false Rows.sumsFollowsRow.laid) (((OpenSpec.ofChange Rows.sumsFollowsSpec).at F).post enc Tryd.prog Tryd.f7 false true false false) := by
  obtain ⟨places, hx⟩ := reads os enc
  refine returnsInHanded_of_row (C := Tryd.checked) (s := OpenSpec.ofChange Rows.sumsFollowsSpec) own started (by kernel_rfl) Tryd.func7
    (witness_row_at (enc := enc) (C := Tryd.checked) false (laidWorld os) #[.slice none 0 0, .int .i64 0, .int .u16 0] rfl (by kernel_rfl) (by kernel_rfl) (by kernel_rfl)
      (OpenSpec.preRow_of_cond 8 hx (by kernel_rfl) (fun k hk => by cases hk) (by kernel_rfl) (laid_met os))) ?_
  intro W base args ds gs before hval hW _ _ _ hL _ _
  exact contract H enc W base args ds gs before hval hW hL
theorem said : Rows.SumsFollowsSaid :=
  OpenClaim.holds_of_cond 7 Tryd.f7 rfl rfl rfl rfl rfl rfl rfl ⟨rfl, rfl, rfl, rfl, rfl⟩ rfl rfl rfl rfl rfl (by kernel_rfl) Tryd.func7 (by kernel_rfl)
    (of_decide_eq_true (by kernel_rfl)) (by unfold Func.isWrapper; first | (rw [if_pos (by decide +kernel)]; kernel_rfl) | (rw [if_neg (by decide +kernel)]; exact ⟨rfl, rfl⟩))
    (fun os started H enc _ F => by rw [OpenClaim.pre_eq_preRow]; exact lifted os started H enc F)
theorem plain (f : FuncId) (fn : Func) (hf : Tryd.pinned.checked.prog.funcNamed "flume/flumelaw01.SumsFollows" = some f) (hfn : Tryd.pinned.checked.prog.funcs[f]? = some fn) :
    false = Tryd.pinned.checked.prog.looks [] ∧ ∀ (j : Nat) t, fn.params[j]? = some t → Tryd.pinned.checked.prog.wantsStandIn t = false := by
  obtain rfl : f = 7 := Option.some.inj ((show Tryd.prog.funcNamed "flume/flumelaw01.SumsFollows" = some 7 by kernel_rfl).symm.trans hf) |>.symm
  obtain rfl : fn = Tryd.f7 := (Option.some.inj (Tryd.func7.symm.trans hfn)).symm
  refine ⟨by kernel_rfl, fun j t ht => ?_⟩
  rw [Tryd.params7] at ht
  have hm : t ∈ [31, 3, 25] := by simpa using Array.mem_of_getElem? ht
  have hall : ([31, 3, 25].all fun u => !Tryd.prog.wantsStandIn u) = true := by kernel_rfl
  exact (show Tryd.prog.wantsStandIn t = false by simpa using List.all_eq_true.1 hall t hm)
/-- the given statement -/
theorem proved : Rows.SumsFollowsCardSaid :=
  Claim7.holds_tied_plain_at .later [] _ _ _ _ said (fun _ h => by cases h) (by kernel_rfl) (fun _ h => by cases h) sumsFollows_row_tie rfl ⟨rfl, rfl⟩ (by kernel_rfl) rfl plain (by kernel_rfl)
#print axioms proved
end Go.Proofs.YtkgfbehlcjjjnaaDoor.sumsFollowsDone
