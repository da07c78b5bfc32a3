/- StoreHolds: for every input the law answers true and leaves its arguments as they were. -/
import Derived.Test.YtnmifaohmafobaaRows
import Derived.Test.YtnmifaohmafobaaStAB
import Derived.ProofKit
import Derived.OpenShut
import Derived.ShutString
import Derived.ChangeOld
namespace Go.Proofs.Ytnmifaohmafobaa.storeHoldsDone
open Go.RowKit Mem st Go.Shelf SM
set_option linter.unusedVariables false
set_option maxRecDepth 100000 in
set_option maxHeartbeats 8000000 in
theorem walk (ch rm : Int) (A : Option Addr) (n c : Nat) (ds : List DoV) (k : DoV) (A3 : Option Addr) (n3 c3 : Nat) (m : Int) (w : World) (_ : (Lit.int .i64 ch).wf = true) (_ : (Lit.int .i64 rm).wf = true) (hd : Dos w w.heap.size A n ds) (hc : n ≤ c) (hn : n ≤ 9223372036854775807) (hr : Rd w w.heap.size A3 n3 (bv k.data)) (hc3 : n3 ≤ c3) (hn3 : n3 ≤ 9223372036854775807) (_ : (Lit.int .i64 m).wf = true) :
    Calls Try.prog 8 #[.int .i64 ch, .int .i64 rm, .slice A n c, doV k A3 n3 c3, .int .i64 m] w fun e w' => e = .returned (.bool true) ∧ Below w.heap.size w w' := by
  obtain ⟨W, hW⟩ : ∃ W, W = w.alloc (.cells #[.int .i64 k.op, .int .i64 k.id, .slice A3 n3 c3, .int .i64 k.n] 34) := ⟨_, rfl⟩
  have hb : Below w.heap.size w W := by rw [hW]; exact (Below.refl _ w).alloc (Nat.le_refl _) _
  have hs : w.heap.size < W.heap.size := by rw [hW]; simp
  have d0 : W.cell? ⟨w.heap.size, 0, none⟩ = some (.int .i64 k.op) := by rw [hW]; go_simp
  have d1 : W.cell? ⟨w.heap.size, 1, none⟩ = some (.int .i64 k.id) := by rw [hW]; go_simp
  have d2 : W.cell? ⟨w.heap.size, 2, none⟩ = some (.slice A3 n3 c3) := by rw [hW]; go_simp
  have d3 : W.cell? ⟨w.heap.size, 3, none⟩ = some (.int .i64 k.n) := by rw [hW]; go_simp
  have HW := Lib.hid hW
  have hS : ∀ y, Below W.heap.size W y → y.cell? ⟨w.heap.size, 0, none⟩ = some (.int .i64 k.op) ∧ y.cell? ⟨w.heap.size, 1, none⟩ = some (.int .i64 k.id) ∧ y.cell? ⟨w.heap.size, 2, none⟩ = some (.slice A3 n3 c3) ∧ y.cell? ⟨w.heap.size, 3, none⟩ = some (.int .i64 k.n) := fun y h => ⟨(h.cell (p := ⟨w.heap.size, 0, none⟩) hs).trans d0, (h.cell (p := ⟨w.heap.size, 1, none⟩) hs).trans d1, (h.cell (p := ⟨w.heap.size, 2, none⟩) hs).trans d2, (h.cell (p := ⟨w.heap.size, 3, none⟩) hs).trans d3⟩
  have HS := Lib.hid hS
  have HBW := Lib.hid hb
  have HDS := Lib.hid (hd.below hb (Nat.le_refl _))
  have HR := Lib.hid ((hr.below hb (Nat.le_refl _)).more hb.size)
  clear hW hb hs d0 d1 d2 d3 hS hr hd
  obtain ⟨SS, hSS⟩ : ∃ SS, (bv (sumOf k.id)).toArray = SS := ⟨_, rfl⟩
  have HSS := Lib.hid hSS
  clear hSS
  unfold doV
  go_enter Try.func8, Try.ntmps8
  go_wp2_with fail
  rw [← HW.out]
  refine (made_any ch rm A n c ds W (HDS.out.more' HBW.out.size) hc hn).mono ?_
  rintro e w1 ⟨s, b, rfl, hb1, hm⟩
  cases b with
  | false =>
    go_wp2_with fail
    refine (awake_any _).mono ?_
    rintro e w2 ⟨rfl, hb2⟩
    go_wp2_with fail
    go_ret
    have h1 := HBW.out.trans (hb1.mono HBW.out.size)
    exact ⟨rfl, h1.trans (hb2.mono h1.size)⟩
  | true =>
    obtain ⟨h300, hall, O, hA⟩ := hm rfl
    have hheld := held_run (mkM ch) (mkR rm) ds ds.length (Nat.le_refl _)
    rw [List.take_length] at hheld
    have hdl : ds.length ≤ 300 := by have := HDS.out.len; omega
    have hheld3 : ∀ e ∈ runL (mkM ch) (mkR rm) ds [], e.held ≤ 300 := fun e he => by have := hheld e he; omega
    obtain ⟨M, hM⟩ : ∃ M, mkM ch = M := ⟨_, rfl⟩
    obtain ⟨R, hR⟩ : ∃ R, mkR rm = R := ⟨_, rfl⟩
    rw [hM, hR] at hA hheld3
    obtain ⟨L0, hL0⟩ : ∃ L0, runL M R ds [] = L0 := ⟨_, rfl⟩
    rw [hL0] at hA hheld3
    have HA := Lib.hid hA
    have HH := Lib.hid hheld3
    obtain ⟨e0, e1, e2, e3⟩ := HS.out _ hb1
    clear hm hA hheld hheld3 hall hM hR hL0 h300 hdl hb1
    go_wp2_with fail
    refine (short_any _ 1 1 (w1.heap.size + 1) [k] _ (dos_one k A3 n3 c3 w1 hc3 ((HR.out.below HA.out.2.2 (Nat.le_refl _)).more HA.out.2.2.size)) (Nat.le_refl _) (by omega)).mono ?_
    rintro e w2 ⟨rfl, b, rfl, hsh⟩
    replace HA := Lib.hid (HA.out.alloc (.cells #[.int .i64 k.op, .int .i64 k.id, .slice A3 n3 c3, .int .i64 k.n] 34))
    obtain ⟨w2, hw2⟩ : ∃ w2, w1.alloc (.cells #[.int .i64 k.op, .int .i64 k.id, .slice A3 n3 c3, .int .i64 k.n] 34) = w2 := ⟨_, rfl⟩
    rw [hw2] at HA ⊢
    clear hw2 e0 e1 e2 e3
    obtain ⟨e0, e1, e2, e3⟩ := HS.out _ HA.out.2.2
    cases b with
    | false =>
      go_wp2_with fail
      refine (awake_any _).mono ?_
      rintro e wz ⟨rfl, hbz⟩
      go_wp2_with fail
      go_ret
      have hz1 := HBW.out.trans (HA.out.2.2.mono HBW.out.size)
      exact ⟨rfl, hz1.trans (hbz.mono hz1.size)⟩
    | true =>
      have hn3' : n3 ≤ 65536 := by have h1 := (hsh rfl).2 k (by simp); have h2 := HR.out.len; rw [bv_len] at h2; omega
      clear hsh
      go_wp2_with fail
      refine (sum_of k.id _).mono ?_
      rintro e w3 ⟨rfl, hb⟩
      replace HA := Lib.hid (HA.out.below hb)
      rw [HSS.out]
      clear hb e0 e1 e2 e3
      obtain ⟨e0, e1, e2, e3⟩ := HS.out _ HA.out.2.2
      go_wp2_with fail
      rw [← HSS.out]
      refine (evict_st (sumOf k.id) w3 (sumOf_len _) HA.out).mono ?_
      rintro e w4 ⟨rfl, O4, h4, _, _⟩
      obtain ⟨EE, hEE⟩ : ∃ z : Nat, (if sumOf k.id ∈ sums L0 then 0 else 90 : Nat) = z := ⟨_, rfl⟩
      rw [hEE]
      clear hEE
      have hin := not_evict (sumOf k.id) L0
      have hh1 := bound_evict (sumOf k.id) HH.out
      obtain ⟨L1, hL1⟩ : ∃ L1, SM.evict (sumOf k.id) L0 = L1 := ⟨_, rfl⟩
      rw [hL1] at h4 hin hh1
      replace HA := Lib.hid h4
      have HIN := Lib.hid hin
      replace HH := Lib.hid hh1
      clear h4 hin hh1 hL1
      rw [HSS.out]
      clear e0 e1 e2 e3
      obtain ⟨e0, e1, e2, e3⟩ := HS.out _ HA.out.2.2
      go_wp2_with fail
      refine wp_region_held_drew (S := fun y => y.cell? ⟨w.heap.size, 0, none⟩ = some (.int .i64 k.op) ∧ y.cell? ⟨w.heap.size, 1, none⟩ = some (.int .i64 k.id) ∧ y.cell? ⟨w.heap.size, 2, none⟩ = some (.slice A3 n3 c3) ∧ y.cell? ⟨w.heap.size, 3, none⟩ = some (.int .i64 k.n)) (by kernel_rfl) (HS.out _ (below_drew HA.out.2.2)) (fun hHeld => ?_)
      clear e0 e1 e2 e3
      replace HA := Lib.hid HA.out.drew
      obtain ⟨w5, hw5⟩ : ∃ z, w4.drew = z := ⟨_, rfl⟩
      rw [hw5] at HA hHeld ⊢
      clear hw5
      refine wpAnyH_take (i := 0) (oi := { dst := some 34, op := Op.move (Operand.tmp 11), type := 23, pos := "law.go:244", after := #[], guard := none }) (v := .pointer (some ⟨s, 0, none⟩)) rfl (by kernel_rfl) (by kernel_rfl) (by kernel_rfl) (fun _ _ _ h => h) (Or.inl ⟨by rfl, ?hy0_1⟩) (by assumption) ?rest0_1
      case hy0_1 => (intro w hSw; (try dsimp only at hSw); go_split_ands; go_simp; try with_reducible rfl)
      try simp only [Act.put, List.setIfInBounds_toArray, List.set_cons_zero, List.set_cons_succ]
      refine wpAnyH_take (i := 1) (oi := { dst := some 35, op := Op.fieldAddr 34 (Operand.tmp 8) 1, type := 0, pos := "law.go:244", after := #[], guard := none }) (v := .pointer (some ⟨w.heap.size, 1, none⟩)) rfl (by kernel_rfl) (by kernel_rfl) (by kernel_rfl) (fun _ _ _ h => h) (Or.inl ⟨by rfl, ?hy1_2⟩) (by assumption) ?rest1_2
      case hy1_2 => (intro w hSw; (try dsimp only at hSw); go_split_ands; go_simp; try with_reducible rfl)
      try simp only [Act.put, List.setIfInBounds_toArray, List.set_cons_zero, List.set_cons_succ]
      refine wpAnyH_take (i := 2) (oi := { dst := some 36, op := Op.load 3 (Operand.tmp 35), type := 3, pos := "law.go:244", after := #[{ on := 1, ground := Ground.data }], guard := none }) (v := .int .i64 k.id) rfl (by kernel_rfl) (by kernel_rfl) (by kernel_rfl) (fun _ _ _ h => h) (Or.inl ⟨by rfl, ?hy2_3⟩) (by assumption) ?rest2_3
      case hy2_3 => (intro w hSw; (try dsimp only at hSw); go_split_ands; go_simp; try with_reducible rfl)
      try simp only [Act.put, List.setIfInBounds_toArray, List.set_cons_zero, List.set_cons_succ]
      refine wpAnyH_take (i := 4) (oi := { dst := some 38, op := Op.fieldAddr 34 (Operand.tmp 8) 2, type := 0, pos := "law.go:244", after := #[], guard := none }) (v := .pointer (some ⟨w.heap.size, 2, none⟩)) rfl (by kernel_rfl) (by kernel_rfl) (by kernel_rfl) (fun _ _ _ h => h) (Or.inl ⟨by rfl, ?hy4_4⟩) (by assumption) ?rest4_4
      case hy4_4 => (intro w hSw; (try dsimp only at hSw); go_split_ands; go_simp; try with_reducible rfl)
      try simp only [Act.put, List.setIfInBounds_toArray, List.set_cons_zero, List.set_cons_succ]
      refine wpAnyH_take (i := 5) (oi := { dst := some 39, op := Op.load 32 (Operand.tmp 38), type := 32, pos := "law.go:244", after := #[{ on := 4, ground := Ground.data }], guard := none }) (v := .slice A3 n3 c3) rfl (by kernel_rfl) (by kernel_rfl) (by kernel_rfl) (fun _ _ _ h => h) (Or.inl ⟨by rfl, ?hy5_5⟩) (by assumption) ?rest5_5
      case hy5_5 => (intro w hSw; (try dsimp only at hSw); go_split_ands; go_simp; try with_reducible rfl)
      try simp only [Act.put, List.setIfInBounds_toArray, List.set_cons_zero, List.set_cons_succ]
      refine wpAnyH_ready (rs := [3]) (by kernel_rfl) (by simp) ?_
      refine AllReadyH.cons (o := { dst := some 37, op := Op.call { callee := Callee.value (Operand.func 19), args := #[Operand.tmp 36], argTypes := #[3] }, type := 40, pos := "law.go:244", after := #[{ on := 2, ground := Ground.data }], guard := none }) rfl (fun K hK => ?_) AllReadyH.nil
      go_simp
      refine (sum_of k.id _).mono ?_
      rintro e w6 ⟨rfl, hb⟩
      replace HA := Lib.hid (HA.out.below hb)
      rw [HSS.out]
      clear hb
      go_wp2_with fail
      refine hK.out _ _ (HS.out _ HA.out.2.2) (fun hHeld => ?_)
      clear hK K
      try simp only [Act.put, List.setIfInBounds_toArray, List.set_cons_zero, List.set_cons_succ]
      refine wpAnyH_ready (rs := [6]) (by kernel_rfl) (by simp) ?_
      refine AllReadyH.cons (o := { dst := some 40, op := Op.call { callee := Callee.value (Operand.func 29), args := #[Operand.tmp 34, Operand.tmp 37, Operand.tmp 39], argTypes := #[23, 40, 32] }, type := 24, pos := "law.go:244", after := #[{ on := 0, ground := Ground.data }, { on := 3, ground := Ground.data }, { on := 5, ground := Ground.data }, { on := 3, ground := Ground.chain }], guard := none }) rfl (fun K hK => ?_) AllReadyH.nil
      go_simp
      rw [← HSS.out]
      refine (put_st (sumOf k.id) k.data A3 n3 c3 W.heap.size w6 (sumOf_len _) HA.out (HR.out.below (HA.out.2.2) (Nat.le_refl _)) (fun i _ hi hO => by have := (HA.out.2.1 i hO).1; omega) HA.out.2.2.size (by omega)).mono ?_
      rintro e w7 ⟨rfl, O7, h7, _, _⟩
      replace HH := Lib.hid (bound_put (M := M) (R := R) (sumOf k.id) k.data HH.out)
      replace HA := Lib.hid h7
      rw [HSS.out]
      clear h7
      rcases put_new (M := M) (R := R) (sumOf k.id) k.data HIN.out with ⟨p1, p2⟩ | ⟨p1, p2, p3⟩
      · rw [p1]
        clear p1 p2
        go_wp2_with fail
        refine hK.out _ _ (HS.out _ HA.out.2.2) (fun hHeld => ?_)
        clear hK K
        try simp only [Act.put, List.setIfInBounds_toArray, List.set_cons_zero, List.set_cons_succ]
        refine wpAnyH_take (i := 7) (oi := { dst := some 41, op := Op.binOp BinOp.neq 24 (Operand.tmp 40) (Operand.const (Value.int IntKind.i64 0)) 24, type := 4, pos := "law.go:244", after := #[{ on := 6, ground := Ground.data }], guard := none }) (v := .bool true) rfl (by kernel_rfl) (by kernel_rfl) (by kernel_rfl) (fun _ _ _ h => h) (Or.inl ⟨by rfl, ?hy7_6⟩) (by assumption) ?rest7_6
        case hy7_6 => (intro w hSw; (try dsimp only at hSw); go_split_ands; go_simp; try with_reducible rfl)
        try simp only [Act.put, List.setIfInBounds_toArray, List.set_cons_zero, List.set_cons_succ]
        refine wpAnyH_done (by kernel_rfl) ?_ _
        go_wp2_with fail
        refine (awake_any _).mono ?_
        rintro e wz ⟨rfl, hbz⟩
        go_wp2_with fail
        go_ret
        have hz1 := HBW.out.trans (HA.out.2.2.mono HBW.out.size)
        exact ⟨rfl, hz1.trans (hbz.mono hz1.size)⟩
      · rw [p1]
        obtain ⟨L2, hL2⟩ : ∃ L2, putL (sumOf k.id) k.data M R L1 = L2 := ⟨_, rfl⟩
        rw [hL2] at HA HH p2 p3
        have HP := Lib.hid (And.intro p2 p3)
        clear p1 p2 p3 hL2 HIN
        go_wp2_with fail
        refine hK.out _ _ (HS.out _ HA.out.2.2) (fun hHeld => ?_)
        clear hK K
        try simp only [Act.put, List.setIfInBounds_toArray, List.set_cons_zero, List.set_cons_succ]
        refine wpAnyH_take (i := 7) (oi := { dst := some 41, op := Op.binOp BinOp.neq 24 (Operand.tmp 40) (Operand.const (Value.int IntKind.i64 0)) 24, type := 4, pos := "law.go:244", after := #[{ on := 6, ground := Ground.data }], guard := none }) (v := .bool false) rfl (by kernel_rfl) (by kernel_rfl) (by kernel_rfl) (fun _ _ _ h => h) (Or.inl ⟨by rfl, ?hy7_7⟩) (by assumption) ?rest7_7
        case hy7_7 => (intro w hSw; (try dsimp only at hSw); go_split_ands; go_simp; try with_reducible rfl)
        try simp only [Act.put, List.setIfInBounds_toArray, List.set_cons_zero, List.set_cons_succ]
        refine wpAnyH_done (by kernel_rfl) ?_ _
        obtain ⟨N, hN⟩ : ∃ N : Nat, (N : Int) = m % 18446744073709551616 % 9 := ⟨(m % 18446744073709551616 % 9).toNat, by omega⟩
        have hN9 : N < 9 := by omega
        have he : wrap64 ((IntKind.u64.wrap m).tmod 9) = (N : Int) := by rw [IntKind.wrap_u64, Int.tmod_eq_emod_of_nonneg (by omega)]; unfold wrap64; omega
        clear hN hHeld
        go_wp2_with fail
        rw [he]
        clear he
        go_loopw [10, 48] (fun _ i wr => ∃ (j : Nat) (O' : Nat → Prop) (Lj : List Ent), i = .int .i64 (j : Nat) ∧ j ≤ N ∧ Hid (AtO W wr O' s M R Lj) ∧ Hid (∀ e ∈ Lj, e.held ≤ 300 + j) ∧ Hid (sumOf k.id ∈ sums Lj ∧ heldOf (sumOf k.id) Lj = j)) (fun _ i _ => N - (intOf i).toNat)
        case atStart => exact ⟨0, _, _, rfl, by omega, HA, HH, HP⟩
        case round =>
          clear HA HH HP
          obtain ⟨j, O', Lj, rfl, hj, HA, HH, HP⟩ := hrel
          obtain ⟨e0, e1, e2, e3⟩ := HS.out _ HA.out.2.2
          by_cases hlt : j < N
          · have hj1 : (j : Int) < (N : Int) := by omega
            go_wp2_with fail
            refine (sum_of k.id _).mono ?_
            rintro e x1 ⟨rfl, hb⟩
            replace HA := Lib.hid (HA.out.below hb)
            rw [HSS.out]
            clear hb e0 e1 e2 e3
            obtain ⟨e0, e1, e2, e3⟩ := HS.out _ HA.out.2.2
            go_wp2_with fail
            rw [← HSS.out]
            refine (pin_st (sumOf k.id) x1 (sumOf_len _) HA.out (fun e he => by have := HH.out e he; omega)).mono ?_
            rintro e x2 ⟨rfl, Op, hp, _, _⟩
            rw [if_pos HP.out.1, HSS.out]
            replace HH := Lib.hid (bound_pin (sumOf k.id) HH.out)
            replace HA := Lib.hid hp
            replace HP := Lib.hid (And.intro (by rw [sums_pin]; exact HP.out.1 : sumOf k.id ∈ sums (SM.pin (sumOf k.id) Lj)) (by rw [held_pin _ _ HP.out.1, HP.out.2] : heldOf (sumOf k.id) (SM.pin (sumOf k.id) Lj) = j + 1))
            clear hp e0 e1 e2 e3
            go_wp2_with fail
            go_roundw
            case rel => exact ⟨j + 1, _, _, by go_num, by omega, HA, HH, HP⟩
            case measure => simp only [intOf]; omega
          · obtain rfl : j = N := by omega
            go_wp2_with fail
            go_loopw [10, 58] (fun _ i wr => ∃ (j2 : Nat) (O' : Nat → Prop) (Lj : List Ent), i = .int .i64 (j2 : Nat) ∧ j2 ≤ j ∧ Hid (AtO W wr O' s M R Lj) ∧ Hid (∀ e ∈ Lj, e.held ≤ 300 + j) ∧ Hid (sumOf k.id ∈ sums Lj ∧ heldOf (sumOf k.id) Lj = j - j2)) (fun _ i _ => j - (intOf i).toNat)
            case atStart => exact ⟨0, _, _, rfl, by omega, HA, HH, HP⟩
            case round =>
              clear HA HH HP e0 e1 e2 e3
              obtain ⟨j2, O2, Lj2, rfl, hj2, HA, HH, HP⟩ := hrel
              obtain ⟨e0, e1, e2, e3⟩ := HS.out _ HA.out.2.2
              by_cases hlt2 : j2 < j
              · have hj1 : (j2 : Int) < (j : Int) := by omega
                go_wp2_with fail
                refine (sum_of k.id _).mono ?_
                rintro e x1 ⟨rfl, hb⟩
                replace HA := Lib.hid (HA.out.below hb)
                rw [HSS.out]
                clear hb e0 e1 e2 e3
                obtain ⟨e0, e1, e2, e3⟩ := HS.out _ HA.out.2.2
                go_wp2_with fail
                rw [← HSS.out]
                have hnz : heldOf (sumOf k.id) Lj2 ≠ 0 := by rw [HP.out.2]; omega
                refine (unpin_st (sumOf k.id) x1 (sumOf_len _) HA.out (fun e he => by have := HH.out e he; omega)).mono ?_
                rintro e x2 ⟨rfl, Op, hp, _, _⟩
                unfold unpinL at hp
                unfold unpinE
                rw [if_neg (fun e => hnz e.2)] at hp
                rw [if_pos HP.out.1, if_neg hnz, HSS.out]
                replace HH := Lib.hid (bound_unpin (sumOf k.id) HH.out)
                replace HA := Lib.hid hp
                replace HP := Lib.hid (And.intro (by rw [sums_unpin]; exact HP.out.1 : sumOf k.id ∈ sums (SM.unpin (sumOf k.id) Lj2)) (by rw [held_unpin, HP.out.2]; omega : heldOf (sumOf k.id) (SM.unpin (sumOf k.id) Lj2) = j - (j2 + 1)))
                clear hp e0 e1 e2 e3 hnz
                go_wp2_with fail
                go_roundw
                case rel => exact ⟨j2 + 1, _, _, by go_num, by omega, HA, HH, HP⟩
                case measure => simp only [intOf]; omega
              · obtain rfl : j2 = j := by omega
                have hz : heldOf (sumOf k.id) Lj2 = 0 := by rw [HP.out.2]; omega
                have HZ := Lib.hid hz
                clear hz
                go_wp2_with fail
                refine (sum_of k.id _).mono ?_
                rintro e z1 ⟨rfl, hb⟩
                replace HA := Lib.hid (HA.out.below hb)
                rw [HSS.out]
                clear hb e0 e1 e2 e3
                obtain ⟨e0, e1, e2, e3⟩ := HS.out _ HA.out.2.2
                go_wp2_with fail
                rw [← HSS.out]
                refine (unpin_st (sumOf k.id) z1 (sumOf_len _) HA.out (fun e he => by have := HH.out e he; omega)).mono ?_
                rintro e z2 ⟨rfl, Oa, ha, _, _⟩
                unfold unpinL at ha
                unfold unpinE
                rw [if_pos ⟨HP.out.1, HZ.out⟩] at ha
                rw [if_pos HP.out.1, if_pos HZ.out]
                replace HA := Lib.hid ha
                clear ha
                rw [HSS.out]
                clear e0 e1 e2 e3
                obtain ⟨e0, e1, e2, e3⟩ := HS.out _ HA.out.2.2
                go_wp2_with fail
                refine (sum_of k.id _).mono ?_
                rintro e z3 ⟨rfl, hb⟩
                replace HA := Lib.hid (HA.out.below hb)
                rw [HSS.out]
                clear hb e0 e1 e2 e3
                obtain ⟨e0, e1, e2, e3⟩ := HS.out _ HA.out.2.2
                go_wp2_with fail
                rw [← HSS.out]
                refine (evict_st (sumOf k.id) z3 (sumOf_len _) HA.out).mono ?_
                rintro e z4 ⟨rfl, Ob, ha, _, _⟩
                rw [if_pos HP.out.1]
                replace HA := Lib.hid ha
                have HNI := Lib.hid (not_evict (sumOf k.id) Lj2)
                replace HH := Lib.hid (bound_evict (sumOf k.id) HH.out)
                clear ha
                rw [HSS.out]
                clear e0 e1 e2 e3
                obtain ⟨e0, e1, e2, e3⟩ := HS.out _ HA.out.2.2
                go_wp2_with fail
                refine (sum_of k.id _).mono ?_
                rintro e z5 ⟨rfl, hb⟩
                replace HA := Lib.hid (HA.out.below hb)
                rw [HSS.out]
                clear hb e0 e1 e2 e3
                obtain ⟨e0, e1, e2, e3⟩ := HS.out _ HA.out.2.2
                go_wp2_with fail
                rw [← HSS.out]
                refine (unpin_st (sumOf k.id) z5 (sumOf_len _) HA.out (fun e he => by have := HH.out e he; omega)).mono ?_
                rintro e z6 ⟨rfl, Oc, ha, _, _⟩
                unfold unpinL at ha
                unfold unpinE
                rw [if_neg (fun e => HNI.out e.1), unpinM_miss HNI.out] at ha
                rw [if_neg HNI.out]
                replace HA := Lib.hid ha
                clear ha
                rw [HSS.out]
                clear e0 e1 e2 e3
                obtain ⟨e0, e1, e2, e3⟩ := HS.out _ HA.out.2.2
                go_wp2_with fail
                refine (sum_of k.id _).mono ?_
                rintro e z7 ⟨rfl, hb⟩
                replace HA := Lib.hid (HA.out.below hb)
                rw [HSS.out]
                clear hb e0 e1 e2 e3
                obtain ⟨e0, e1, e2, e3⟩ := HS.out _ HA.out.2.2
                go_wp2_with fail
                rw [← HSS.out]
                refine (pin_st (sumOf k.id) z7 (sumOf_len _) HA.out (fun e he => by have := HH.out e he; omega)).mono ?_
                rintro e z8 ⟨rfl, Od, ha, _, _⟩
                rw [if_neg HNI.out]
                replace HA := Lib.hid ha
                clear ha
                rw [HSS.out]
                clear e0 e1 e2 e3
                obtain ⟨e0, e1, e2, e3⟩ := HS.out _ HA.out.2.2
                go_wp2_with fail
                refine (awake_any _).mono ?_
                rintro e wz ⟨rfl, hbz⟩
                go_wp2_with fail
                go_ret
                have hz1 := HBW.out.trans (HA.out.2.2.mono HBW.out.size)
                exact ⟨rfl, hz1.trans (hbz.mono hz1.size)⟩
end Go.Proofs.Ytnmifaohmafobaa.storeHoldsDone
namespace Go.Proofs.Ytnmifaohmafobaa.storeHoldsDone
open Go.ChangeShapes Go.WideShapes Go.ChangeAt Go.RowKit Mem st Go.Shelf SM
set_option linter.unusedVariables false
theorem own : ownKnob Try.prog.godebug = none := by kernel_rfl
theorem laidOut : laidOutB Try.prog = true := by kernel_rfl
set_option maxRecDepth 100000 in
theorem lifted (os : Os) (started : os.Started) (H : Type) (enc : TypeId × Value → H) :
    ReturnsInHanded {} Try.checked os 8 .any (Rows.storeHoldsSpec.pre6 enc Try.prog Try.f8 Rows.storeHoldsRow.domain false) (Rows.storeHoldsSpec.post enc Try.prog Try.f8 false true false false) := by
  refine returnsInHanded_of_change (C := Try.checked) own started (by kernel_rfl) Try.func8
    (ChangeSpec.witness6 (enc := enc) (C := Try.checked) false ⟨#[], #[.int .i64 0, .int .i64 0, .slice none 0 0, .agg #[.int .i64 0, .int .i64 0, .slice none 0 0, .int .i64 0], .int .i64 0], []⟩ 8 (by kernel_rfl) (by kernel_rfl) (by kernel_rfl) (by kernel_rfl)) ?_
  intro W base args ds gs before hval0 hW hcnd _
  have hval : ∀ (j : Nat) t v, Try.f8.params[j]? = some t → args[j]? = some v → Value.okWide Try.prog W .any base t v := hval0
  have hW' := hW
  obtain ⟨p, q, hA0, hV, rfl, hfz, hnd⟩ := hW
  have hA : DataW.TrodAll enc Try.prog W 0 (fun _ => true) true Try.f8.params.toList args.toList ds p := hA0
  rw [Try.params8] at hA hval
  obtain ⟨v0, vs0, d0, ds0, p0, q0, hargs, rfl, rfl, h0, r0⟩ := trodAll_cons hA
  obtain ⟨v1, vs1, d1, ds1, p1, q1, rfl, rfl, rfl, h1, r1⟩ := trodAll_cons r0
  obtain ⟨v2, vs2, d2, ds2, p2, q2, rfl, rfl, rfl, h2, r2⟩ := trodAll_cons r1
  obtain ⟨v3, vs3, d3, ds3, p3, q3, rfl, rfl, rfl, h3, r3⟩ := trodAll_cons r2
  obtain ⟨v4, vs4, d4, ds4, p4, q4, rfl, rfl, rfl, h4, r4⟩ := trodAll_cons r3
  obtain ⟨rfl, rfl, rfl⟩ := trodAll_nil r4
  obtain rfl : args = #[v0, v1, v2, v3, v4] := by cases args; simp_all
  obtain ⟨rfl, rfl⟩ := trodVars_none hV
  obtain ⟨a0, rfl, rfl, rfl, w0⟩ := open_int Try.underlying3 (hval 0 3 v0 rfl rfl) h0
  obtain ⟨a1, rfl, rfl, rfl, w1⟩ := open_int Try.underlying3 (hval 1 3 v1 rfl rfl) h1
  obtain ⟨a2, n2, c2, rfl⟩ := okWide_slice Try.underlying22 (hval 2 22 v2 rfl rfl)
  have k2 := h2
  have lt2 : ∀ x ∈ p2, x.block < W.heap.size := by obtain ⟨m, hm⟩ := k2; exact DataW.trod_lt m _ _ _ hm
  obtain ⟨l2, w2, m2, b2⟩ : ∃ l : List DoV, Dos W W.heap.size a2 n2 l ∧ n2 ≤ c2 ∧ n2 ≤ 9223372036854775807 := by
    obtain ⟨fuel, hf⟩ := h2
    exact open_dos hf
  have k3 := h3
  have lt3 : ∀ x ∈ p3, x.block < W.heap.size := by obtain ⟨m, hm⟩ := k3; exact DataW.trod_lt m _ _ _ hm
  obtain ⟨K3, A3, n3, c3, rfl, w3, m3, b3⟩ := open_do (hval 3 34 v3 rfl rfl) h3
  obtain ⟨a4, rfl, rfl, rfl, w4⟩ := open_int Try.underlying3 (hval 4 3 v4 rfl rfl) h4
  clear hA0 hval0
  refine (walk a0 a1 a2 n2 c2 l2 K3 A3 n3 c3 a4 W w0 w1 w2 m2 b2 w3 m3 b3 w4).mono fun e W' ⟨he, bel⟩ => ?_
  subst he
  exact ⟨_, rfl, _, _, _, [], _, [], hW', trodAll_mk1 (shut_bool Try.underlying4 _), (trodAll_cons_mk (shut_int Try.underlying3 w0) (trodAll_cons_mk (shut_int Try.underlying3 w1) (trodAll_cons_mk (Below.trod laidOut (by kernel_rfl) (of_decide_eq_true (by kernel_rfl)) k2 bel lt2) (trodAll_cons_mk (Below.trod laidOut (by kernel_rfl) (of_decide_eq_true (by kernel_rfl)) k3 bel lt3) (trodAll_cons_mk (shut_int Try.underlying3 w4) trodAll_mk0))))), rfl, bel.frame _, fun h => by cases h⟩

theorem over : Rows.storeHoldsRow.holds Try.pinned (OpenSpec.ofChange Rows.storeHoldsSpec) :=
  OpenClaim.holds_of_wide 8 Try.f8 rfl rfl rfl rfl rfl rfl rfl ⟨rfl, rfl, rfl, rfl, rfl⟩ rfl rfl rfl rfl rfl (by kernel_rfl) Try.func8 (by kernel_rfl)
    (of_decide_eq_true (by kernel_rfl)) (by unfold Func.isWrapper; first | (rw [if_pos (by decide +kernel)]; kernel_rfl) | (rw [if_neg (by decide +kernel)]; exact ⟨rfl, rfl⟩))
    (fun os started H enc _ => lifted os started H enc)
/-- the given statement -/
theorem proved : Rows.StoreHoldsSaid := over
#print axioms proved
end Go.Proofs.Ytnmifaohmafobaa.storeHoldsDone
