/- SumsBurst: for every input the law answers true and leaves its arguments as they were; the table that the program lays is tied to its text. -/
import Derived.Test.YtkgfbehlcjjjnaaDoorSumF
import Derived.Test.YtkgfbehlcjjjnaaDoorSumG
import Derived.Test.YtkgfbehlcjjjnaaDoorBurst2
import Derived.Test.YtkgfbehlcjjjnaaDoorSumD
namespace Go.Proofs.YtkgfbehlcjjjnaaDoor.sumsBurstDone
open Go.RowKit Mem SM lib CM sum
set_option maxHeartbeats 2000000 in
theorem walk (A : Option Addr) (n c : Nat) (l : List UInt8) (k x : Int) (w : World) (ht : Tab w) (h : Rd w w.heap.size A n (bv l)) (hc : n ≤ c) (hn : n ≤ 9223372036854775807) (_hk : (Lit.int .i64 k).wf = true) (hx : (Lit.int .u32 x).wf = true) :
    Calls Tryd.prog 11 #[.slice A n c, .int .i64 k, .int .u32 x] w fun e w' => e = .returned (.bool true) ∧ Below w.heap.size w w' := by
  have hx3 : 0 ≤ x ∧ x ≤ 4294967295 := by simpa [Lit.wf, IntKind.min, IntKind.max, IntKind.signed, IntKind.bits] using hx
  obtain ⟨x, rfl⟩ := Int.eq_ofNat_of_zero_le hx3.1
  have hx2 : x ≤ 4294967295 := by omega
  clear hx hx3
  have hpos := ht.pos
  have HT := Lib.hid ht
  have Hl := Lib.hid h.len
  clear ht
  by_cases hbig : 65536 < n
  · go_enter Tryd.func11, Tryd.ntmps11
    go_wp2_with fail
    refine (awake_any _ HT.out).mono ?_
    rintro e w1 ⟨rfl, hb1⟩
    go_wp2
    go_ret
    exact ⟨rfl, hb1⟩
  by_cases hz : x = 0
  · subst hz
    go_enter Tryd.func11, Tryd.ntmps11
    go_wp2_with fail
    refine (awake_any _ HT.out).mono ?_
    rintro e w1 ⟨rfl, hb1⟩
    go_wp2
    go_ret
    exact ⟨rfl, hb1⟩
  obtain ⟨a, ha⟩ : ∃ a : Nat, IntKind.u64.wrap k = (a : Int) := ⟨(IntKind.u64.wrap k).toNat, by rw [Int.toNat_of_nonneg (wrap_u64_nonneg k)]⟩
  have hz2 : ((x : Int) == 0) = false := by rw [beq_eq_false_iff_ne]; omega
  have HZ := Lib.hid hz
  clear hz
  go_enter Tryd.func11, Tryd.ntmps11
  go_wp2_with fail
  refine (seal_any A n c _ l _ h hc HT.out (Nat.le_refl _) (by omega)).mono ?_
  rintro e w1 ⟨A2, n2, c2, rfl, ho, hb⟩
  have hn2 : n2 = n + 4 := by have h1 := ho.len; have h2 := Hl.out; rw [bv_len] at h1 h2; rw [List.length_append] at h1; simp [le4] at h1; omega
  subst hn2
  obtain ⟨g, rfl, hgB, hgl⟩ := ho.at0 (by omega)
  have hc2 := ho.cap
  unfold maxLen at hc2
  obtain ⟨X, hX⟩ : ∃ X, X = l ++ le4 (crc l) := ⟨_, rfl⟩
  rw [← hX] at ho
  have hXl : X.length = n + 4 := by have := ho.len; rw [bv_len] at this; exact this
  obtain ⟨p, hp⟩ : ∃ p, p = a % (8 * (n + 4)) := ⟨_, rfl⟩
  have hp2 : p < 8 * (n + 4) := by rw [hp]; exact Nat.mod_lt _ (by omega)
  have hp3 : (a : Int) % (8 * ((n : Int) + 4)) = (p : Int) := by rw [hp]; push_cast; rfl
  have HX := Lib.hid hX
  have HXL := Lib.hid hXl
  have HTU := Lib.hid (Turned.none X (8 * X.length - p))
  clear hX hXl hp
  go_wp2_with fail
  clear hp3 hz2
  go_loopw [8, 9, 36] (fun _ _ i wr => ∃ j : Nat, ∃ Z, i = .int .i64 j ∧ j ≤ 32 ∧ Ow wr w.heap.size 5 (some ⟨g, 0, none⟩) (n + 4) c2 (bv Z) ∧ Below w.heap.size w wr ∧ Hid (Turned X (8 * X.length - p) j Z)) (fun _ _ i _ => 32 - (intOf i).toNat)
  case atStart => exact ⟨0, X, rfl, by omega, ho, hb, HTU⟩
  case round =>
    obtain ⟨j, Z, rfl, hj, hoZ, hbZ, HTZ⟩ := hrel
    by_cases hlt : j < 32
    · by_cases hbd : p + j < 8 * (n + 4)
      · obtain ⟨q, hq⟩ : ∃ q, q = (p + j) / 8 := ⟨_, rfl⟩
        obtain ⟨r, hr⟩ : ∃ r, r = (p + j) % 8 := ⟨_, rfl⟩
        have e1 : ((p : Int) + (j : Int)) / 8 = (q : Int) := by omega
        have e2 : ((p : Int) + (j : Int)) % 8 = (r : Int) := by omega
        have hq2 : (q : Int) < (n : Int) + 4 := by omega
        have hq3 : q < n + 4 := by omega
        have hr2 : r < 8 := by omega
        have hbd2 : (p : Int) + (j : Int) < 8 * ((n : Int) + 4) := by omega
        have hset := hoZ.set q (.int .u8 0) hq3
        have c1 := hset.2.2.1
        have z1 := hset.2.2.2
        have hZl : Z.length = n + 4 := by have := hoZ.len; rw [bv_len] at this; exact this
        obtain ⟨b, hbe⟩ : ∃ b, Z[q]? = some b := ⟨_, List.getElem?_eq_getElem (by omega)⟩
        rw [show (bv Z)[q]? = some (.int .u8 (b.toNat : Int)) from by simp [bv, hbe]] at c1
        obtain ⟨u, hu⟩ : ∃ u, u = b ^^^ UInt8.ofNat (2 ^ r) := ⟨_, rfl⟩
        obtain ⟨P, hP⟩ : ∃ P, P = 2 ^ r := ⟨_, rfl⟩
        have hpw : P < 256 := by have := Nat.pow_lt_pow_right (show 1 < 2 by omega) hr2; omega
        have fx : bits BinOp.xor IntKind.u8 (b.toNat : Int) ((2 : Int) ^ r % 256) = (u.toNat : Int) := by
          have e3 : ((2 : Int) ^ r) = (P : Int) := by rw [hP]; simp
          have e4 : (P : Int) % 256 = (P : Int) := by omega
          rw [hu, e3, e4, ← hP]
          exact CM.u8_xor b P hpw
        have ho2 := (hoZ.set q (.int .u8 (u.toNat : Int)) hq3).1.drew
        have hb2 := (hbZ.setCell (p := ⟨g, q, none⟩) hgB (.int .u8 (u.toNat : Int))).drew
        rw [← bv_set] at ho2
        have htn : Z.set q u = turn Z (p + j) := by
          unfold turn
          rw [← hq, ← hr, hu, List.getD_eq_getElem?_getD, hbe]
          rfl
        rw [htn] at ho2
        have HO2 := Lib.hid ho2
        have HB2 := Lib.hid hb2
        have HT2 := Lib.hid (HTZ.out.one (a := p) hlt (by rw [HXL.out]; exact hbd) rfl)
        clear hu hpw hP ho2 hb2 htn
        have HQ := Lib.hid hq
        have HR := Lib.hid hr
        have HB := Lib.hid hbe
        have HZL := Lib.hid hZl
        clear hq hr hbe hset hZl
        go_wp2_with fail
        · go_region
          go_wp2_with fail
          clear e1 e2 hq2 hq3 hr2 hbd2 c1 z1 fx HQ HR HB HZL
          have ho2 := HO2.out
          have hb2 := HB2.out
          clear HO2 HB2
          go_roundw
          case rel => exact ⟨j + 1, turn Z (p + j), by go_num, by omega, ho2, hb2, HT2⟩
          case measure => simp [intOf]; omega
        · clear e1 e2 hq2 hq3 hr2 hbd2 c1 z1 fx HQ HR HB HZL HO2 HB2 HT2
          go_roundw
          case rel => exact ⟨j + 1, Z, by go_num, by omega, hoZ, hbZ, HTZ.out.skip⟩
          case measure => simp [intOf]; omega
      · have hbd2 : ¬ (p : Int) + (j : Int) < 8 * ((n : Int) + 4) := by omega
        go_wp2_with fail
        · go_roundw
          case rel => exact ⟨j + 1, Z, by go_num, by omega, hoZ, hbZ, HTZ.out.skip⟩
          case measure => simp [intOf]; omega
        · go_roundw
          case rel => exact ⟨j + 1, Z, by go_num, by omega, hoZ, hbZ, HTZ.out.skip⟩
          case measure => simp [intOf]; omega
    · obtain rfl : j = 32 := by omega
      have hZl : Z.length = n + 4 := by have := hoZ.len; rw [bv_len] at this; exact this
      have hsz := hbZ.size
      by_cases hZX : Z = X
      · obtain ⟨d0, d1, d2, d3, hle⟩ := le4_four (CM.crc l)
        have hoX := hoZ
        rw [hZX, HX.out, hle] at hoX
        have hq : decide ([d0, d1, d2, d3] = [d0, d1, d2, d3]) = true := by simp
        have hcall := open_good _ c2 _ n l d0 d1 d2 d3 wr hoX.rd (by have := Hl.out; rw [bv_len] at this; exact this) (by omega) (by omega) (HT.out.below hbZ hpos) (Nat.le_refl _) (by omega) d0 d1 d2 d3 hle hq
        have HC := Lib.hid hcall
        clear hcall hle hq hoX
        go_wp2_with fail
        refine HC.out.mono ?_
        rintro e w4 ⟨A5, n5, c5, rfl, ho5, hb5⟩
        have hb5' := hbZ.trans (hb5.mono hsz)
        have hs5 := hb5'.size
        go_wp2_with fail
        refine (seal_any A n c _ l _ (h.below hb5' (Nat.le_refl _)) hc (HT.out.below hb5' hpos) hs5 (by omega)).mono ?_
        rintro e w6 ⟨A6, n6, c6, rfl, ho6, hb6⟩
        have hb6' := hb5'.trans (hb6.mono hs5)
        go_wp2_with fail
        refine (equal_any _ _ _ _ _ _ w6.heap.size Z (l ++ le4 (CM.crc l)) _ ((hoZ.below (hb5.trans (hb6.mono hb5.size)) (Nat.le_refl _)).rd) ho6.rd).mono ?_
        rintro e w7 ⟨rfl, rfl⟩
        have hdec : decide (Z = l ++ le4 (CM.crc l)) = true := by rw [← HX.out]; exact decide_eq_true hZX
        rw [hdec]
        clear hZX hdec
        go_wp2_with fail
        refine (awake_any _ (HT.out.below hb6' hpos)).mono ?_
        rintro e w8 ⟨rfl, hb8⟩
        go_wp2
        go_ret
        exact ⟨rfl, hb6'.trans (hb8.mono hb6'.size)⟩
      · obtain ⟨t, b0, b1, b2, b3, hsp, htl⟩ := split_four hZl
        have hYr : CM.crcF CM.ones Z ≠ CM.rest4 := HTZ.out.told (by rw [HX.out]; exact CM.sealed_rest l) hZX
        obtain ⟨d0, d1, d2, d3, hle⟩ := le4_four (CM.crc t)
        have hq : decide ([b0, b1, b2, b3] = [d0, d1, d2, d3]) = false := by rw [← hle]; rw [hsp] at hYr; exact decide_eq_false (CM.broken t _ _ _ _ hYr)
        have hoX := hoZ
        rw [hsp] at hoX
        have hcall := open_bad _ c2 _ n t b0 b1 b2 b3 wr hoX.rd htl (by omega) (by omega) (HT.out.below hbZ hpos) (Nat.le_refl _) (by omega) d0 d1 d2 d3 hle hq
        have HC := Lib.hid hcall
        clear hcall hle hq hoX hsp htl hYr
        go_wp2_with fail
        refine HC.out.mono ?_
        rintro e w4 ⟨rfl, hb5⟩
        have hb5' := hbZ.trans (hb5.mono hsz)
        have hs5 := hb5'.size
        go_wp2_with fail
        refine (seal_any A n c _ l _ (h.below hb5' (Nat.le_refl _)) hc (HT.out.below hb5' hpos) hs5 (by omega)).mono ?_
        rintro e w6 ⟨A6, n6, c6, rfl, ho6, hb6⟩
        have hb6' := hb5'.trans (hb6.mono hs5)
        go_wp2_with fail
        refine (equal_any _ _ _ _ _ _ w6.heap.size Z (l ++ le4 (CM.crc l)) _ ((hoZ.below (hb5.trans (hb6.mono hb5.size)) (Nat.le_refl _)).rd) ho6.rd).mono ?_
        rintro e w7 ⟨rfl, rfl⟩
        have hdec : decide (Z = l ++ le4 (CM.crc l)) = false := by rw [← HX.out]; exact decide_eq_false hZX
        rw [hdec]
        clear hZX hdec
        go_wp2_with fail
        refine (awake_any _ (HT.out.below hb6' hpos)).mono ?_
        rintro e w8 ⟨rfl, hb8⟩
        go_wp2
        go_ret
        exact ⟨rfl, hb6'.trans (hb8.mono hb6'.size)⟩
end Go.Proofs.YtkgfbehlcjjjnaaDoor.sumsBurstDone
namespace Go.Proofs.YtkgfbehlcjjjnaaDoor.sumsBurstDone
open Go.ChangeShapes Go.WideShapes Go.ChangeAt Go.RowKit Mem sum
set_option linter.unusedVariables false
theorem contract (H : Type) (enc : TypeId × Value → H) (W : World) (base : Nat) (args : Array Value) (ds gs : List (DataW H)) (before : List MemPlace)
    (hval : ∀ (j : Nat) t v, Tryd.f11.params[j]? = some t → args[j]? = some v → Value.okWide Tryd.prog W .any base t v)
    (hW : DataW.Whole enc Tryd.prog Tryd.f11.params.toList Rows.sumsBurstSpec.vars false W args.toList ds gs before) (hL : laidMetH Tryd.prog Rows.sumsBurstRow.laid W) :
    Calls Tryd.prog 11 args W fun e W' => ∃ v, e = .returned v ∧ Rows.sumsBurstSpec.post enc Tryd.prog Tryd.f11 false true false false W args v W' := by
  have hW' := hW
  have hT : Tab W := table rfl hL
  obtain ⟨p, q, hA0, hV, rfl, hfz, hnd⟩ := hW
  have hA : DataW.TrodAll enc Tryd.prog W 0 (fun _ => true) true Tryd.f11.params.toList args.toList ds p := hA0
  rw [Tryd.params11] at hA hval
  obtain ⟨v0, vs0, d0, ds0, p0, q0, hargs, rfl, rfl, h0, r0⟩ := trodAll_cons hA
  obtain ⟨v1, vs1, d1, ds1, p1, q1, rfl, rfl, rfl, h1, r1⟩ := trodAll_cons r0
  obtain ⟨v2, vs2, d2, ds2, p2, q2, rfl, rfl, rfl, h2, r2⟩ := trodAll_cons r1
  obtain ⟨rfl, rfl, rfl⟩ := trodAll_nil r2
  obtain rfl : args = #[v0, v1, v2] := by cases args; simp_all
  obtain ⟨rfl, rfl⟩ := trodVars_none hV
  obtain ⟨a0, n0, c0, rfl⟩ := okWide_slice Tryd.underlying31 (hval 0 31 v0 rfl rfl)
  have k0 := h0
  have lt0 : ∀ x ∈ p0, x.block < W.heap.size := by obtain ⟨m, hm⟩ := k0; exact DataW.trod_lt m _ _ _ hm
  obtain ⟨l0, w0, m0, b0⟩ : ∃ l : List UInt8, Rd W W.heap.size a0 n0 (bv l) ∧ n0 ≤ c0 ∧ n0 ≤ 9223372036854775807 := by
    obtain ⟨fuel, hf⟩ := h0
    rcases open_ints Tryd.underlying31 Tryd.underlying5 (by kernel_rfl) hf with ⟨hcs, _⟩ | ⟨x, l, c, zs, hcs, _, hl, hm, hz, _, hcell, hwz⟩
    · simp [Value.cells] at hcs
      obtain ⟨rfl, rfl, rfl⟩ := hcs
      exact ⟨[], Rd.nil _ _ _, Nat.le_refl _, by omega⟩
    · simp [Value.cells] at hcs
      obtain ⟨rfl, rfl, rfl⟩ := hcs
      unfold maxLen at hm
      obtain ⟨l, hl2⟩ := rd_bytes hl (by simpa using hz) hcell hwz
      exact ⟨l, hl2, hl, by omega⟩
  obtain ⟨a1, rfl, rfl, rfl, w1⟩ := open_int Tryd.underlying3 (hval 1 3 v1 rfl rfl) h1
  obtain ⟨a2, rfl, rfl, rfl, w2⟩ := open_int Tryd.underlying40 (hval 2 40 v2 rfl rfl) h2
  clear hA0 hval
  refine (walk a0 n0 c0 l0 a1 a2 W hT w0 m0 b0 w1 w2).mono fun e W' ⟨he, bel⟩ => ?_
  subst he
  exact ⟨_, rfl, _, _, _, [], _, [], hW', trodAll_mk1 (shut_bool Tryd.underlying4 _), (trodAll_cons_mk (Below.trod laidOut (by kernel_rfl) (of_decide_eq_true (by kernel_rfl)) k0 bel lt0) (trodAll_cons_mk (shut_int Tryd.underlying3 w1) (trodAll_cons_mk (shut_int Tryd.underlying40 w2) trodAll_mk0))), rfl, bel.frame _, fun h => by cases h⟩

theorem laid_met (os : Os) : laidMet Tryd.prog Rows.sumsBurstRow.laid ((laidWorld os).forCall (fun _ _ => 0) ⟨#[], #[.slice none 0 0, .int .i64 0, .int .u32 0], []⟩).memory :=
  laidMet_of_run' 8 (by kernel_rfl) (by kernel_rfl)
theorem reads (os : Os) {H : Type} (enc : TypeId × Value → H) : ∃ places, DataW.whole enc Tryd.prog ((laidWorld os).forCall (fun _ _ => 0) ⟨#[], #[.slice none 0 0, .int .i64 0, .int .u32 0], []⟩).memory Tryd.f11.params.toList Rows.sumsBurstSpec.vars false (#[.slice none 0 0, .int .i64 0, .int .u32 0] : Array Value).toList 8 = some ([.nil, .lit (.int .i64 0), .lit (.int .u32 0)], [], places) :=
  ⟨[], by kernel_rfl⟩
set_option maxRecDepth 100000 in
theorem lifted (os : Os) (started : os.Started) (H : Type) (enc : TypeId × Value → H) (F : Stop.Interp) :
    ReturnsInHanded {} Tryd.checked os 11 .any ((OpenSpec.ofChange Rows.sumsBurstSpec).preRow enc Tryd.prog Tryd.f11 Rows.sumsBurstRow.domain false Rows.sumsBurstRow.laid) (((OpenSpec.ofChange Rows.sumsBurstSpec).at F).post enc Tryd.prog Tryd.f11 false true false false) := by
  obtain ⟨places, hx⟩ := reads os enc
  refine returnsInHanded_of_row (C := Tryd.checked) (s := OpenSpec.ofChange Rows.sumsBurstSpec) own started (by kernel_rfl) Tryd.func11
    (witness_row_at (enc := enc) (C := Tryd.checked) false (laidWorld os) #[.slice none 0 0, .int .i64 0, .int .u32 0] rfl (by kernel_rfl) (by kernel_rfl) (by kernel_rfl)
      (OpenSpec.preRow_of_cond 8 hx (by kernel_rfl) (fun k hk => by cases hk) (by kernel_rfl) (laid_met os))) ?_
  intro W base args ds gs before hval hW _ _ _ hL _ _
  exact contract H enc W base args ds gs before hval hW hL
theorem said : Rows.SumsBurstSaid :=
  OpenClaim.holds_of_cond 11 Tryd.f11 rfl rfl rfl rfl rfl rfl rfl ⟨rfl, rfl, rfl, rfl, rfl⟩ rfl rfl rfl rfl rfl (by kernel_rfl) Tryd.func11 (by kernel_rfl)
    (of_decide_eq_true (by kernel_rfl)) (by unfold Func.isWrapper; first | (rw [if_pos (by decide +kernel)]; kernel_rfl) | (rw [if_neg (by decide +kernel)]; exact ⟨rfl, rfl⟩))
    (fun os started H enc _ F => by rw [OpenClaim.pre_eq_preRow]; exact lifted os started H enc F)
theorem plain (f : FuncId) (fn : Func) (hf : Tryd.pinned.checked.prog.funcNamed "flume/flumelaw01.SumsBurst" = some f) (hfn : Tryd.pinned.checked.prog.funcs[f]? = some fn) :
    false = Tryd.pinned.checked.prog.looks [] ∧ ∀ (j : Nat) t, fn.params[j]? = some t → Tryd.pinned.checked.prog.wantsStandIn t = false := by
  obtain rfl : f = 11 := Option.some.inj ((show Tryd.prog.funcNamed "flume/flumelaw01.SumsBurst" = some 11 by kernel_rfl).symm.trans hf) |>.symm
  obtain rfl : fn = Tryd.f11 := (Option.some.inj (Tryd.func11.symm.trans hfn)).symm
  refine ⟨by kernel_rfl, fun j t ht => ?_⟩
  rw [Tryd.params11] at ht
  have hm : t ∈ [31, 3, 40] := by simpa using Array.mem_of_getElem? ht
  have hall : ([31, 3, 40].all fun u => !Tryd.prog.wantsStandIn u) = true := by kernel_rfl
  exact (show Tryd.prog.wantsStandIn t = false by simpa using List.all_eq_true.1 hall t hm)
/-- the given statement -/
theorem proved : Rows.SumsBurstCardSaid :=
  Claim7.holds_tied_plain_at .later [] _ _ _ _ said (fun _ h => by cases h) (by kernel_rfl) (fun _ h => by cases h) sumsBurst_row_tie rfl ⟨rfl, rfl⟩ (by kernel_rfl) rfl plain (by kernel_rfl)
#print axioms proved
end Go.Proofs.YtkgfbehlcjjjnaaDoor.sumsBurstDone
