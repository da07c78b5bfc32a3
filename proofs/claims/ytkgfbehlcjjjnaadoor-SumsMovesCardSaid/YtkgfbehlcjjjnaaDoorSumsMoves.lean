/- SumsMoves: for every input the law answers true and leaves its arguments as they were; the table that the program lays is tied to its text. -/
import Derived.Test.YtkgfbehlcjjjnaaDoorSumF
import Derived.Test.YtkgfbehlcjjjnaaDoorSumG
import Derived.Test.YtkgfbehlcjjjnaaDoorSumD
import Derived.Test.YtkgfbehlcjjjnaaDoorSumMath2
namespace Go.Proofs.YtkgfbehlcjjjnaaDoor.sumsMovesDone
open Go.RowKit Mem SM lib CM sum
theorem parts_at {w' : World} {B n c z : Nat} {A : Option Addr} {l : List UInt8} (hr : Rd w' B A n (bv l)) (hc : n ≤ c) (hcell : w'.cell? ⟨z, 0, none⟩ = some (.slice A n c)) (hz : z < B) : Parts w' B (some ⟨z, 0, none⟩) 1 [l] := by
  have hn : n = l.length := by rw [← hr.len, bv_len]
  subst hn
  refine ⟨rfl, [.slice A l.length c], ⟨rfl, fun _ => ⟨z, 0, rfl, hz, fun i hi => ?_⟩⟩, fun i hi => ?_⟩
  · obtain rfl : i = 0 := by omega
    simpa using hcell
  · obtain rfl : i = 0 := by simpa using hi
    exact ⟨A, c, rfl, hc, hr⟩
theorem row_word {w : World} {B g n c : Nat} {E : TypeId} {Z : List UInt8} (ho : Ow w B E (some ⟨g, 0, none⟩) n c (bv Z)) (j : Nat) (h : 2 * j + 1 < n) :
    ∃ b0 b1 : Nat, b0 < 256 ∧ b1 < 256 ∧ w.cell? ⟨g, 2 * j, none⟩ = some (.int .u8 (b0 : Int)) ∧ w.cell? ⟨g, 2 * j + 1, none⟩ = some (.int .u8 (b1 : Int)) ∧ wd Z j = 256 * b0 + b1 := by
  have hl : Z.length = n := by have := ho.len; rw [bv_len] at this; exact this
  have c0 := (ho.set (2 * j) (.int .u8 0) (by omega)).2.2.1
  have c1 := (ho.set (2 * j + 1) (.int .u8 0) (by omega)).2.2.1
  rw [bv_at Z (2 * j) (by omega)] at c0
  rw [bv_at Z (2 * j + 1) (by omega)] at c1
  refine ⟨(Z[2 * j]'(by omega)).toNat, (Z[2 * j + 1]'(by omega)).toNat, UInt8.toNat_lt _, UInt8.toNat_lt _, c0, c1, ?_⟩
  unfold wd
  rw [List.getD_eq_getElem?_getD, List.getD_eq_getElem?_getD, List.getElem?_eq_getElem (by omega), List.getElem?_eq_getElem (by omega)]
  rfl
set_option maxRecDepth 50000 in
set_option maxHeartbeats 4000000 in
theorem walk (A : Option Addr) (n c : Nat) (l : List UInt8) (A0 : Option Addr) (n0 c0 : Nat) (ts : List Int) (w : World) (ht : Tab w) (h : Rd w w.heap.size A n (bv l)) (hc : n ≤ c) (hn : n ≤ 9223372036854775807)
    (h0 : Rd w w.heap.size A0 n0 (iv ts)) (_hc0 : n0 ≤ c0) (hn0 : n0 ≤ 9223372036854775807) (_hts : ∀ x ∈ ts, -9223372036854775808 ≤ x ∧ x ≤ 9223372036854775807) :
    Calls Tryd.prog 6 #[.slice A n c, .slice A0 n0 c0] w fun e w' => e = .returned (.bool true) ∧ Below w.heap.size w w' := by
  have hpos := ht.pos
  have HT := Lib.hid ht
  have Hl := Lib.hid h.len
  have Ht := Lib.hid h0.len
  clear ht
  by_cases hbig : 65536 < n
  · go_enter Tryd.func6, Tryd.ntmps6
    go_wp2_with fail
    refine (awake_any _ HT.out).mono ?_
    rintro e w1 ⟨rfl, hb1⟩
    go_wp2
    go_ret
    exact ⟨rfl, hb1⟩
  by_cases hbig0 : 1000 < n0
  · go_enter Tryd.func6, Tryd.ntmps6
    go_wp2_with fail
    refine (awake_any _ HT.out).mono ?_
    rintro e w1 ⟨rfl, hb1⟩
    go_wp2
    go_ret
    exact ⟨rfl, hb1⟩
  obtain ⟨m2, hm2⟩ : ∃ m2, m2 = n / 2 := ⟨_, rfl⟩
  have f1 : (n : Int) / 2 = (m2 : Int) := by omega
  have hm3 : m2 ≤ 32768 := by omega
  have hm4 : 2 * m2 ≤ n := by omega
  have HM := Lib.hid hm2
  clear hm2
  go_enter Tryd.func6, Tryd.ntmps6
  go_wp2_with (refine wp_cut_h u8ty rfl (.tmp 20) (.tmp 24) rfl rfl rfl h (by omega) (by omega) hc ?_; intro A1 n1 hn1 hr1; have HN1 := Lib.hid hn1; clear hn1)
  rw [show ((m2 : Int) * 2).toNat = 2 * m2 from by omega, ← bv_take] at hr1
  refine (clone_any _ _ _ _ _ _ hr1 (Nat.le_refl _) (by have := HN1.out; omega)).mono ?_
  rintro e w1 ⟨A2, n2, c2, rfl, ho, hb⟩
  obtain ⟨l2, hl2e⟩ : ∃ l2, l2 = l.take (2 * m2) := ⟨_, rfl⟩
  rw [← hl2e] at ho hr1
  have hn2 : l2.length = n2 := by have := ho.len; rw [bv_len] at this; exact this
  have hn3 : n2 = 2 * m2 := by have h2 := Hl.out; rw [bv_len] at h2; rw [← hn2, hl2e, List.length_take]; omega
  have HL2 := Lib.hid hn2
  have HN2 := Lib.hid hn3
  have HLE := Lib.hid hl2e
  clear hn2 hl2e hn3
  go_wp2_with fail
  go_loopw [6, 7, 8, 9, 10, 29] (fun _ _ _ _ _ i wr => ∃ j : Nat, ∃ Z : List UInt8, i = .int .i64 j ∧ j ≤ n0 ∧ Ow wr w.heap.size 5 A2 n2 c2 (bv Z) ∧ Below w.heap.size w wr ∧ Hid (ws true Z = ws true l2)) (fun _ _ _ _ _ i _ => n0 - (intOf i).toNat)
  case atStart => exact ⟨0, l2, rfl, by omega, ho, hb, (rfl : ws true l2 = ws true l2)⟩
  case round =>
    obtain ⟨j, Z, rfl, hj, hoZ, hbZ, HZ⟩ := hrel
    by_cases hlt : j < n0
    · have hjl : j < ts.length := by have := Ht.out; rw [iv_len] at this; omega
      obtain ⟨bt, ot, rfl, hbt, hct⟩ := (h0.below hbZ (Nat.le_refl _)).at_ hlt
      rw [iv_at ts j hjl] at hct
      obtain ⟨k, hk⟩ : ∃ k, k = ts[j] := ⟨_, rfl⟩
      rw [← hk] at hct
      clear hk
      rcases Nat.eq_zero_or_pos m2 with hz | hz
      · have f5 : ¬ 0 < n2 := by have := HN2.out; omega
        clear hz
        go_wp2_with fail
        go_roundw
        case rel => exact ⟨j + 1, Z, by go_num, by omega, hoZ, hbZ, HZ⟩
        case measure => simp [intOf]; omega
      · obtain ⟨a, ha⟩ : ∃ a : Nat, IntKind.u64.wrap k = (a : Int) := ⟨(IntKind.u64.wrap k).toNat, by rw [Int.toNat_of_nonneg (wrap_u64_nonneg k)]⟩
        obtain ⟨p, hp⟩ : ∃ p, p = j % m2 := ⟨_, rfl⟩
        obtain ⟨q, hq⟩ : ∃ q, q = a % m2 := ⟨_, rfl⟩
        have hp2 : p < m2 := by rw [hp]; exact Nat.mod_lt _ hz
        have hq2 : q < m2 := by rw [hq]; exact Nat.mod_lt _ hz
        have e1 : (j : Int) % (m2 : Int) = (p : Int) := by rw [hp]; simp
        have e2 : (a : Int) % (m2 : Int) = (q : Int) := by rw [hq]; simp
        have f4 : (n2 : Int) / 2 = (m2 : Int) := by have := HN2.out; omega
        have f5 : (0 : Int) < (n2 : Int) := by have := HN2.out; omega
        have f6 : ¬ (m2 : Int) = 0 := by omega
        clear hp hq
        go_wp2_with fail
        go_quiet (fail)
        generalize hw4 : World.drewN wr _ = w4
        have ho4 : Ow w4 w.heap.size 5 A2 n2 c2 (bv Z) := by rw [← hw4]; exact hoZ.drewN _
        have hb4 : Below w.heap.size w w4 := by rw [← hw4]; exact below_drewN hbZ _
        clear hw4 hoZ hbZ hct e1 e2
        obtain ⟨g, rfl, hgB, hgl⟩ := ho4.at0 (by omega)
        obtain ⟨b0, b1, hb0, hb1, c0, c1, hwp⟩ := row_word ho4 p (by have := HN2.out; omega)
        obtain ⟨b2, b3, hb2, hb3, d0, d1, hwq⟩ := row_word ho4 q (by have := HN2.out; omega)
        have i1 : (2 * (p : Int)).toNat = 2 * p := by omega
        have i2 : (2 * (p : Int) + 1).toNat = 2 * p + 1 := by omega
        have i3 : (2 * (q : Int)).toNat = 2 * q := by omega
        have i4 : (2 * (q : Int) + 1).toNat = 2 * q + 1 := by omega
        have g1 : 2 * (p : Int) < (n2 : Int) := by have := HN2.out; omega
        have g2 : 2 * (p : Int) + 1 < (n2 : Int) := by have := HN2.out; omega
        have g3 : 2 * (q : Int) < (n2 : Int) := by have := HN2.out; omega
        have g4 : 2 * (q : Int) + 1 < (n2 : Int) := by have := HN2.out; omega
        have HWP := Lib.hid hwp
        have HWQ := Lib.hid hwq
        clear hwp hwq f6
        go_wp2_with fail
        go_region
        have hry := rd_alloc w4 36 [.int .u8 (b0 : Int), .int .u8 (b1 : Int), .int .u8 (b2 : Int), .int .u8 (b3 : Int)] (0, 0)
        obtain ⟨yb, yo, yeq, _, ycell⟩ := hry.addr (by simp)
        obtain ⟨rfl, rfl⟩ : yb = w4.heap.size ∧ yo = 0 := by simpa using yeq.symm
        have y0 := ycell 0 (by simp)
        have y1 := ycell 1 (by simp)
        have y2 := ycell 2 (by simp)
        have y3 := ycell 3 (by simp)
        simp only [Nat.zero_add, List.getElem?_cons_zero, List.getElem?_cons_succ] at y0 y1 y2 y3
        have ho5 := (ho4.alloc (.cells #[.int .u8 (b0 : Int), .int .u8 (b1 : Int), .int .u8 (b2 : Int), .int .u8 (b3 : Int)] 36)).drew
        have hb5 := (hb4.alloc hb4.size (.cells #[.int .u8 (b0 : Int), .int .u8 (b1 : Int), .int .u8 (b2 : Int), .int .u8 (b3 : Int)] 36)).drew
        replace y0 : (w4.alloc (.cells #[.int .u8 (b0 : Int), .int .u8 (b1 : Int), .int .u8 (b2 : Int), .int .u8 (b3 : Int)] 36)).drew.cell? ⟨w4.heap.size, 0, none⟩ = some (.int .u8 (b0 : Int)) := y0
        replace y1 : (w4.alloc (.cells #[.int .u8 (b0 : Int), .int .u8 (b1 : Int), .int .u8 (b2 : Int), .int .u8 (b3 : Int)] 36)).drew.cell? ⟨w4.heap.size, 1, none⟩ = some (.int .u8 (b1 : Int)) := y1
        replace y2 : (w4.alloc (.cells #[.int .u8 (b0 : Int), .int .u8 (b1 : Int), .int .u8 (b2 : Int), .int .u8 (b3 : Int)] 36)).drew.cell? ⟨w4.heap.size, 2, none⟩ = some (.int .u8 (b2 : Int)) := y2
        replace y3 : (w4.alloc (.cells #[.int .u8 (b0 : Int), .int .u8 (b1 : Int), .int .u8 (b2 : Int), .int .u8 (b3 : Int)] 36)).drew.cell? ⟨w4.heap.size, 3, none⟩ = some (.int .u8 (b3 : Int)) := y3
        clear hry ycell yeq
        generalize (World.alloc w4 _).drew = w5 at *
        have hgy : ¬ g = w4.heap.size := by omega
        have hgy2 : ¬ w4.heap.size = g := by omega
        clear c0 c1 d0 d1 ho4 hb4
        generalize w4.heap.size = y at *
        clear w4
        have t1 := two_writes ho5 hgB p (by have := HN2.out; omega)
        obtain ⟨⟨x0, hx0⟩, ⟨x1, hx1⟩, z0, z1, hset1⟩ := t1
        obtain ⟨⟨x2, hx2⟩, ⟨x3, hx3⟩, z2, z3, _⟩ := two_writes ho5 hgB q (by have := HN2.out; omega)
        obtain ⟨o6, b6⟩ := hset1 (wd Z q) (b2 : Int) (b3 : Int) (wd_le Z q) (by have := HWQ.out; omega) (by have := HWQ.out; omega)
        obtain ⟨_, _, _, _, hset2⟩ := two_writes o6 hgB q (by have := HN2.out; omega)
        obtain ⟨o7, b7⟩ := hset2 (wd Z p) (b0 : Int) (b1 : Int) (wd_le Z p) (by have := HWP.out; omega) (by have := HWP.out; omega)
        have HO7 := Lib.hid o7
        have HB7 := Lib.hid (hb5.trans (b6.trans b7))
        have HZ2 : Hid (ws true (swap2 Z p q) = ws true l2) := (ws_swap2 Z p q (by have := HN2.out; have := ho5.len; rw [bv_len] at this; omega) (by have := HN2.out; have := ho5.len; rw [bv_len] at this; omega)).trans HZ.out
        clear hset1 hset2 o6 b6 o7 b7 ho5
        by_cases hpq : p = q
        · subst hpq
          as_aux_lemma =>
            go_wp2_with fail
            go_region
            all_goals go_wp2_with fail
            all_goals go_roundw
            case rel => exact ⟨j + 1, swap2 Z p p, by go_num, by omega, HO7.out.drew, HB7.out.drew, HZ2⟩
            case measure => simp [intOf]; omega
        · have q1 : ¬ 2 * p = 2 * q := by omega
          have q2 : ¬ 2 * p = 2 * q + 1 := by omega
          have q3 : ¬ 2 * p + 1 = 2 * q := by omega
          have q4 : ¬ 2 * p + 1 = 2 * q + 1 := by omega
          have q5 : ¬ 2 * q = 2 * p := by omega
          have q6 : ¬ 2 * q = 2 * p + 1 := by omega
          have q7 : ¬ 2 * q + 1 = 2 * p := by omega
          have q8 : ¬ 2 * q + 1 = 2 * p + 1 := by omega
          clear hpq
          as_aux_lemma =>
            go_wp2_with fail
            go_region
            all_goals go_wp2_with fail
            all_goals go_roundw
            case rel => exact ⟨j + 1, swap2 Z p q, by go_num, by omega, HO7.out.drew, HB7.out.drew, HZ2⟩
            case measure => simp [intOf]; omega
    · have hZl : Z.length = n2 := by have := hoZ.len; rw [bv_len] at this; exact this
      have hsz := hbZ.size
      have hn2 : n2 ≤ 65536 := by have := HN2.out; omega
      have hcc := hoZ.cap.1
      have hin : inet [Z] = inet [l2] := by unfold inet; rw [ps_one, ps_one, HZ.out]
      obtain ⟨N, hN⟩ : ∃ N, N = inet [l2] := ⟨_, rfl⟩
      have hA0 : A.map (·.add 0) = A := by cases A <;> simp [Addr.add]
      have hrb : Rd wr w.heap.size A (2 * m2) (bv l2) := by
        have := (h.below hbZ (Nat.le_refl _)).cut (l := 0) (m := 2 * m2) (by omega) (A' := A) (fun _ => hA0.symm)
        rw [List.drop_zero, ← bv_take, ← HLE.out] at this
        exact this
      have hix : ∀ (W : World) (z : Nat), Below wr.heap.size wr W → (W.cell? ⟨z, 0, none⟩ = some (.slice A2 n2 c2) ∨ W.cell? ⟨z, 0, none⟩ = some (.slice A (2 * m2) c)) → z < W.heap.size →
          Calls Tryd.prog 16 #[.slice (some ⟨z, 0, none⟩) 1 1] W fun e w'' => e = .returned (.int .u16 (N : Int)) ∧ Below wr.heap.size wr w'' ∧ w''.heap.size = W.heap.size ∧ ∃ q, w'' = W.drewN q := by
        intro W z hb1 hc1 hz1
        have hs1 := hb1.size
        rcases hc1 with hc1 | hc1
        · refine (inet_any _ _ _ _ [Z] W (parts_at ((hoZ.rd.below hb1 (Nat.le_refl _)).more hs1) hcc hc1 hz1) (by omega) (by simp [tot]; omega)).mono ?_
          rintro e w2 ⟨rfl, q, rfl⟩
          exact ⟨by rw [hN, hin], below_drewN hb1 q, rfl, q, rfl⟩
        · refine (inet_any _ _ _ _ [l2] W (parts_at ((hrb.below (hb1.mono hsz) (Nat.le_refl _)).more (Nat.le_trans hsz hs1)) (by omega) hc1 hz1) (by omega) (by have := HL2.out; simp [tot]; omega)).mono ?_
          rintro e w2 ⟨rfl, q, rfl⟩
          exact ⟨by rw [hN], below_drewN hb1 q, rfl, q, rfl⟩
      have haw : ∀ W : World, Below wr.heap.size wr W → Calls Tryd.prog 15 #[] W fun e w'' => e = .returned (.bool true) ∧ Below w.heap.size w w'' := fun W hb1 => by
        have h1 := hbZ.trans (hb1.mono hsz)
        exact (awake_any _ (HT.out.below h1 hpos)).mono fun e w'' hh => ⟨hh.1, h1.trans (hh.2.mono h1.size)⟩
      have HIX := Lib.hid hix
      have HAW := Lib.hid haw
      have i5 : ((m2 : Int) * 2).toNat = 2 * m2 := by omega
      have i6 : (m2 : Int) * 2 ≤ (c : Int) := by omega
      have i7 : (0 : Int) ≤ (m2 : Int) * 2 := by omega
      have k1 : IntKind.i64.wrap (m2 : Int) = (m2 : Int) := IntWalk.i64_in _ (by omega)
      have k2 : IntKind.i64.wrap ((m2 : Int) * 2) = (m2 : Int) * 2 := IntWalk.i64_in _ (by omega)
      have hNN : ((N : Int) == (N : Int)) = true := by simp
      clear hN hin hix haw hA0
      go_wp2_with fail
      go_region_law (first
        | (go_simp; go_at_call 16; refine (HIX.out _ _ (by repeat first | exact Below.refl _ _ | assumption | refine Below.drew ?_ | refine below_drewN ?_ _ | refine Below.alloc ?_ (by simp) _) (by first | (left; go_simp; done) | (right; go_simp; done)) (by simp <;> omega)).mono ?_; rintro e w5 ⟨rfl, hb5, _, q5, rfl⟩)
        | (go_simp; go_at_call 15; refine (HAW.out _ (by repeat first | exact Below.refl _ _ | assumption | refine Below.drew ?_ | refine below_drewN ?_ _ | refine Below.alloc ?_ (by simp) _)).mono ?_; rintro e w8 ⟨rfl, hb8⟩))
      all_goals (go_wp2_with fail; go_ret; exact ⟨rfl, hb8⟩)
end Go.Proofs.YtkgfbehlcjjjnaaDoor.sumsMovesDone
namespace Go.Proofs.YtkgfbehlcjjjnaaDoor.sumsMovesDone
open Go.ChangeShapes Go.WideShapes Go.ChangeAt Go.RowKit Mem sum
set_option linter.unusedVariables false
theorem contract (H : Type) (enc : TypeId × Value → H) (W : World) (base : Nat) (args : Array Value) (ds gs : List (DataW H)) (before : List MemPlace)
    (hval : ∀ (j : Nat) t v, Tryd.f6.params[j]? = some t → args[j]? = some v → Value.okWide Tryd.prog W .any base t v)
    (hW : DataW.Whole enc Tryd.prog Tryd.f6.params.toList Rows.sumsMovesSpec.vars false W args.toList ds gs before) (hL : laidMetH Tryd.prog Rows.sumsMovesRow.laid W) :
    Calls Tryd.prog 6 args W fun e W' => ∃ v, e = .returned v ∧ Rows.sumsMovesSpec.post enc Tryd.prog Tryd.f6 false true false false W args v W' := by
  have hW' := hW
  have hT : Tab W := table rfl hL
  obtain ⟨p, q, hA0, hV, rfl, hfz, hnd⟩ := hW
  have hA : DataW.TrodAll enc Tryd.prog W 0 (fun _ => true) true Tryd.f6.params.toList args.toList ds p := hA0
  rw [Tryd.params6] at hA hval
  obtain ⟨v0, vs0, d0, ds0, p0, q0, hargs, rfl, rfl, h0, r0⟩ := trodAll_cons hA
  obtain ⟨v1, vs1, d1, ds1, p1, q1, rfl, rfl, rfl, h1, r1⟩ := trodAll_cons r0
  obtain ⟨rfl, rfl, rfl⟩ := trodAll_nil r1
  obtain rfl : args = #[v0, v1] := by cases args; simp_all
  obtain ⟨rfl, rfl⟩ := trodVars_none hV
  obtain ⟨a0, n0, c0, rfl⟩ := okWide_slice Tryd.underlying31 (hval 0 31 v0 rfl rfl)
  have k0 := h0
  have lt0 : ∀ x ∈ p0, x.block < W.heap.size := by obtain ⟨m, hm⟩ := k0; exact DataW.trod_lt m _ _ _ hm
  obtain ⟨l0, w0, m0, b0⟩ : ∃ l : List UInt8, Rd W W.heap.size a0 n0 (bv l) ∧ n0 ≤ c0 ∧ n0 ≤ 9223372036854775807 := by
    obtain ⟨fuel, hf⟩ := h0
    rcases open_ints Tryd.underlying31 Tryd.underlying5 (by kernel_rfl) hf with ⟨hcs, _⟩ | ⟨x, l, c, zs, hcs, _, hl, hm, hz, _, hcell, hwz⟩
    · simp [Value.cells] at hcs
      obtain ⟨rfl, rfl, rfl⟩ := hcs
      exact ⟨[], Rd.nil _ _ _, Nat.le_refl _, by omega⟩
    · simp [Value.cells] at hcs
      obtain ⟨rfl, rfl, rfl⟩ := hcs
      unfold maxLen at hm
      obtain ⟨l, hl2⟩ := rd_bytes hl (by simpa using hz) hcell hwz
      exact ⟨l, hl2, hl, by omega⟩
  obtain ⟨a1, n1, c1, rfl⟩ := okWide_slice Tryd.underlying35 (hval 1 35 v1 rfl rfl)
  have k1 := h1
  have lt1 : ∀ x ∈ p1, x.block < W.heap.size := by obtain ⟨m, hm⟩ := k1; exact DataW.trod_lt m _ _ _ hm
  obtain ⟨l1, w1, x1, m1, b1⟩ : ∃ l : List Int, Rd W W.heap.size a1 n1 (iv l) ∧ (∀ x ∈ l, -9223372036854775808 ≤ x ∧ x ≤ 9223372036854775807) ∧ n1 ≤ c1 ∧ n1 ≤ 9223372036854775807 := by
    obtain ⟨fuel, hf⟩ := h1
    rcases open_ints Tryd.underlying35 Tryd.underlying3 (by kernel_rfl) hf with ⟨hcs, _⟩ | ⟨x, l, c, zs, hcs, _, hl, hm, hz, _, hcell, hwz⟩
    · simp [Value.cells] at hcs
      obtain ⟨rfl, rfl, rfl⟩ := hcs
      exact ⟨[], Rd.nil _ _ _, (fun _ h => by cases h), Nat.le_refl _, by omega⟩
    · simp [Value.cells] at hcs
      obtain ⟨rfl, rfl, rfl⟩ := hcs
      unfold maxLen at hm
      obtain ⟨l, hl2, hx⟩ := rd_ints hl (by simpa using hz) hcell hwz
      exact ⟨l, hl2, hx, hl, by omega⟩
  clear hA0 hval
  refine (walk a0 n0 c0 l0 a1 n1 c1 l1 W hT w0 m0 b0 w1 m1 b1 x1).mono fun e W' ⟨he, bel⟩ => ?_
  subst he
  exact ⟨_, rfl, _, _, _, [], _, [], hW', trodAll_mk1 (shut_bool Tryd.underlying4 _), (trodAll_cons_mk (Below.trod laidOut (by kernel_rfl) (of_decide_eq_true (by kernel_rfl)) k0 bel lt0) (trodAll_cons_mk (Below.trod laidOut (by kernel_rfl) (of_decide_eq_true (by kernel_rfl)) k1 bel lt1) trodAll_mk0)), rfl, bel.frame _, fun h => by cases h⟩

theorem laid_met (os : Os) : laidMet Tryd.prog Rows.sumsMovesRow.laid ((laidWorld os).forCall (fun _ _ => 0) ⟨#[], #[.slice none 0 0, .slice none 0 0], []⟩).memory :=
  laidMet_of_run' 8 (by kernel_rfl) (by kernel_rfl)
theorem reads (os : Os) {H : Type} (enc : TypeId × Value → H) : ∃ places, DataW.whole enc Tryd.prog ((laidWorld os).forCall (fun _ _ => 0) ⟨#[], #[.slice none 0 0, .slice none 0 0], []⟩).memory Tryd.f6.params.toList Rows.sumsMovesSpec.vars false (#[.slice none 0 0, .slice none 0 0] : Array Value).toList 8 = some ([.nil, .nil], [], places) :=
  ⟨[], by kernel_rfl⟩
set_option maxRecDepth 100000 in
theorem lifted (os : Os) (started : os.Started) (H : Type) (enc : TypeId × Value → H) (F : Stop.Interp) :
    ReturnsInHanded {} Tryd.checked os 6 .any ((OpenSpec.ofChange Rows.sumsMovesSpec).preRow enc Tryd.prog Tryd.f6 Rows.sumsMovesRow.domain false Rows.sumsMovesRow.laid) (((OpenSpec.ofChange Rows.sumsMovesSpec).at F).post enc Tryd.prog Tryd.f6 false true false false) := by
  obtain ⟨places, hx⟩ := reads os enc
  refine returnsInHanded_of_row (C := Tryd.checked) (s := OpenSpec.ofChange Rows.sumsMovesSpec) own started (by kernel_rfl) Tryd.func6
    (witness_row_at (enc := enc) (C := Tryd.checked) false (laidWorld os) #[.slice none 0 0, .slice none 0 0] rfl (by kernel_rfl) (by kernel_rfl) (by kernel_rfl)
      (OpenSpec.preRow_of_cond 8 hx (by kernel_rfl) (fun k hk => by cases hk) (by kernel_rfl) (laid_met os))) ?_
  intro W base args ds gs before hval hW _ _ _ hL _ _
  exact contract H enc W base args ds gs before hval hW hL
theorem said : Rows.SumsMovesSaid :=
  OpenClaim.holds_of_cond 6 Tryd.f6 rfl rfl rfl rfl rfl rfl rfl ⟨rfl, rfl, rfl, rfl, rfl⟩ rfl rfl rfl rfl rfl (by kernel_rfl) Tryd.func6 (by kernel_rfl)
    (of_decide_eq_true (by kernel_rfl)) (by unfold Func.isWrapper; first | (rw [if_pos (by decide +kernel)]; kernel_rfl) | (rw [if_neg (by decide +kernel)]; exact ⟨rfl, rfl⟩))
    (fun os started H enc _ F => by rw [OpenClaim.pre_eq_preRow]; exact lifted os started H enc F)
theorem plain (f : FuncId) (fn : Func) (hf : Tryd.pinned.checked.prog.funcNamed "flume/flumelaw01.SumsMoves" = some f) (hfn : Tryd.pinned.checked.prog.funcs[f]? = some fn) :
    false = Tryd.pinned.checked.prog.looks [] ∧ ∀ (j : Nat) t, fn.params[j]? = some t → Tryd.pinned.checked.prog.wantsStandIn t = false := by
  obtain rfl : f = 6 := Option.some.inj ((show Tryd.prog.funcNamed "flume/flumelaw01.SumsMoves" = some 6 by kernel_rfl).symm.trans hf) |>.symm
  obtain rfl : fn = Tryd.f6 := (Option.some.inj (Tryd.func6.symm.trans hfn)).symm
  refine ⟨by kernel_rfl, fun j t ht => ?_⟩
  rw [Tryd.params6] at ht
  have hm : t ∈ [31, 35] := by simpa using Array.mem_of_getElem? ht
  have hall : ([31, 35].all fun u => !Tryd.prog.wantsStandIn u) = true := by kernel_rfl
  exact (show Tryd.prog.wantsStandIn t = false by simpa using List.all_eq_true.1 hall t hm)
/-- the given statement -/
theorem proved : Rows.SumsMovesCardSaid :=
  Claim7.holds_tied_plain_at .later [] _ _ _ _ said (fun _ h => by cases h) (by kernel_rfl) (fun _ h => by cases h) sumsMoves_row_tie rfl ⟨rfl, rfl⟩ (by kernel_rfl) rfl plain (by kernel_rfl)
#print axioms proved
end Go.Proofs.YtkgfbehlcjjjnaaDoor.sumsMovesDone
