/- StoreLeast: for every input the law answers true and leaves its arguments as they were. -/
import Derived.Test.YtnmifaohmafobaaRows
import Derived.Test.YtnmifaohmafobaaStAE
import Derived.ProofKit
import Derived.OpenShut
import Derived.ShutString
import Derived.ChangeOld
namespace Go.Proofs.Ytnmifaohmafobaa.storeLeastDone
open Go.RowKit Mem st Go.Shelf SM
set_option linter.unusedVariables false
set_option maxRecDepth 100000 in
set_option maxHeartbeats 8000000 in
theorem walk (ch rm : Int) (A : Option Addr) (n c : Nat) (ds : List DoV) (k : DoV) (A3 : Option Addr) (n3 c3 : Nat) (w : World) (_ : (Lit.int .i64 ch).wf = true) (_ : (Lit.int .i64 rm).wf = true) (hd : Dos w w.heap.size A n ds) (hc : n ≤ c) (hn : n ≤ 9223372036854775807) (hr : Rd w w.heap.size A3 n3 (bv k.data)) (hc3 : n3 ≤ c3) (hn3 : n3 ≤ 9223372036854775807) :
    Calls Try.prog 7 #[.int .i64 ch, .int .i64 rm, .slice A n c, doV k A3 n3 c3] w fun e w' => e = .returned (.bool true) ∧ Below w.heap.size w w' := by
  obtain ⟨W, hW⟩ : ∃ W, W = w.alloc (.cells #[.int .i64 k.op, .int .i64 k.id, .slice A3 n3 c3, .int .i64 k.n] 34) := ⟨_, rfl⟩
  have hb : Below w.heap.size w W := by rw [hW]; exact (Below.refl _ w).alloc (Nat.le_refl _) _
  have hs : w.heap.size < W.heap.size := by rw [hW]; simp
  have d0 : W.cell? ⟨w.heap.size, 0, none⟩ = some (.int .i64 k.op) := by rw [hW]; go_simp
  have d1 : W.cell? ⟨w.heap.size, 1, none⟩ = some (.int .i64 k.id) := by rw [hW]; go_simp
  have d2 : W.cell? ⟨w.heap.size, 2, none⟩ = some (.slice A3 n3 c3) := by rw [hW]; go_simp
  have d3 : W.cell? ⟨w.heap.size, 3, none⟩ = some (.int .i64 k.n) := by rw [hW]; go_simp
  have HW := Lib.hid hW
  have hS : ∀ y, Below W.heap.size W y → y.cell? ⟨w.heap.size, 0, none⟩ = some (.int .i64 k.op) ∧ y.cell? ⟨w.heap.size, 1, none⟩ = some (.int .i64 k.id) ∧ y.cell? ⟨w.heap.size, 2, none⟩ = some (.slice A3 n3 c3) ∧ y.cell? ⟨w.heap.size, 3, none⟩ = some (.int .i64 k.n) := fun y h => ⟨(h.cell (p := ⟨w.heap.size, 0, none⟩) hs).trans d0, (h.cell (p := ⟨w.heap.size, 1, none⟩) hs).trans d1, (h.cell (p := ⟨w.heap.size, 2, none⟩) hs).trans d2, (h.cell (p := ⟨w.heap.size, 3, none⟩) hs).trans d3⟩
  have HS := Lib.hid hS
  have HBW := Lib.hid hb
  have HDS := Lib.hid (hd.below hb (Nat.le_refl _))
  have HR := Lib.hid ((hr.below hb (Nat.le_refl _)).more hb.size)
  clear hW hb hs d0 d1 d2 d3 hS hr hd
  obtain ⟨SS, hSS⟩ : ∃ SS, (bv (sumOf k.id)).toArray = SS := ⟨_, rfl⟩
  have HSS := Lib.hid hSS
  clear hSS
  unfold doV
  go_enter Try.func7, Try.ntmps7
  go_wp2_with fail
  rw [← HW.out]
  refine (made_any ch rm A n c ds W (HDS.out.more' HBW.out.size) hc hn).mono ?_
  rintro e w1 ⟨s, b, rfl, hb1, hm⟩
  cases b with
  | false =>
    go_wp2_with fail
    refine (awake_any _).mono ?_
    rintro e w2 ⟨rfl, hb2⟩
    go_wp2_with fail
    go_ret
    have h1 := HBW.out.trans (hb1.mono HBW.out.size)
    exact ⟨rfl, h1.trans (hb2.mono h1.size)⟩
  | true =>
    obtain ⟨h300, hall, O, hA⟩ := hm rfl
    have hheld := held_run (mkM ch) (mkR rm) ds ds.length (Nat.le_refl _)
    rw [List.take_length] at hheld
    have hdl : ds.length ≤ 300 := by have := HDS.out.len; omega
    have hheld3 : ∀ e ∈ runL (mkM ch) (mkR rm) ds [], e.held ≤ 300 := fun e he => by have := hheld e he; omega
    obtain ⟨M, hM⟩ : ∃ M, mkM ch = M := ⟨_, rfl⟩
    obtain ⟨R, hR⟩ : ∃ R, mkR rm = R := ⟨_, rfl⟩
    have he1 := mkM_eq ch
    have he2 := mkR_eq rm
    rw [hM] at he1
    rw [hR] at he2
    rw [hM, hR] at hA hheld3
    have HEQ := Lib.hid (And.intro he1 he2)
    have HMR := Lib.hid (And.intro (by rw [← hM]; exact mkM_ok ch : 1 ≤ M ∧ M ≤ 64) (by rw [← hR]; exact mkR_ok rm : 1 ≤ R ∧ R ≤ 8192))
    clear he1 he2
    obtain ⟨L0, hL0⟩ : ∃ L0, runL M R ds [] = L0 := ⟨_, rfl⟩
    rw [hL0] at hA hheld3
    have HA := Lib.hid hA
    have HH := Lib.hid hheld3
    obtain ⟨e0, e1, e2, e3⟩ := HS.out _ hb1
    clear hm hA hheld hheld3 hall hM hR hL0 h300 hdl hb1
    go_wp2_with fail
    refine (short_any _ 1 1 (w1.heap.size + 1) [k] _ (dos_one k A3 n3 c3 w1 hc3 ((HR.out.below HA.out.2.2 (Nat.le_refl _)).more HA.out.2.2.size)) (Nat.le_refl _) (by omega)).mono ?_
    rintro e w2 ⟨rfl, b, rfl, hsh⟩
    replace HA := Lib.hid (HA.out.alloc (.cells #[.int .i64 k.op, .int .i64 k.id, .slice A3 n3 c3, .int .i64 k.n] 34))
    obtain ⟨w2, hw2⟩ : ∃ w2, w1.alloc (.cells #[.int .i64 k.op, .int .i64 k.id, .slice A3 n3 c3, .int .i64 k.n] 34) = w2 := ⟨_, rfl⟩
    rw [hw2] at HA ⊢
    clear hw2 e0 e1 e2 e3
    obtain ⟨e0, e1, e2, e3⟩ := HS.out _ HA.out.2.2
    cases b with
    | false =>
      go_wp2_with fail
      refine (awake_any _).mono ?_
      rintro e wz ⟨rfl, hbz⟩
      go_wp2_with fail
      go_ret
      have hz1 := HBW.out.trans (HA.out.2.2.mono HBW.out.size)
      exact ⟨rfl, hz1.trans (hbz.mono hz1.size)⟩
    | true =>
      have hdl3 : n3 = k.data.length := by have h2 := HR.out.len; rw [bv_len] at h2; exact h2.symm
      have hn3' : n3 ≤ 65536 := by have h1 := (hsh rfl).2 k (by simp); omega
      have HDL := Lib.hid hdl3
      clear hsh hdl3
      go_wp2_with fail
      have HA0 := HA
      have hofw : ∀ i, O i → i < w2.heap.size := fun i hi => (HA.out.2.1 i hi).2
      refine (list_any w2 HA.out.1).mono ?_
      rintro e w4 ⟨va, rfl, hOw, hb⟩
      have hlens := HA.out.lens
      have hfew := HA.out.few
      have htot := HA.out.1.few
      replace HA := Lib.hid (HA.out.below hb)
      have HW2 := Lib.hid (Nat.le_of_lt_succ (Nat.lt_succ_of_le HA0.out.2.2.size))
      have HOW := Lib.hid hOw
      have HLF := Lib.hid (And.intro hlens (And.intro hfew htot))
      have HO4 := Lib.hid (And.intro hofw hb.size)
      clear HA0 hOw hb hlens hfew htot hofw
      clear e0 e1 e2 e3
      obtain ⟨e0, e1, e2, e3⟩ := HS.out _ HA.out.2.2
      go_wp2_with fail
      refine (len_any w4 HA.out.1).mono ?_
      rintro e w' ⟨rfl, rfl⟩
      obtain ⟨NN, hNN⟩ : ∃ z : Nat, L0.length = z := ⟨_, rfl⟩
      rw [hNN]
      have HNN := Lib.hid hNN
      clear hNN
      go_wp2_with fail
      refine (bytes_any w4 HA.out.1).mono ?_
      rintro e w' ⟨rfl, rfl⟩
      obtain ⟨TT, hTT⟩ : ∃ z : Nat, total L0 = z := ⟨_, rfl⟩
      rw [hTT]
      have HTT := Lib.hid hTT
      clear hTT
      go_wp2_with fail
      refine (sum_of k.id _).mono ?_
      rintro e w5 ⟨rfl, hb⟩
      replace HA := Lib.hid (HA.out.below hb)
      have HB5 := Lib.hid hb
      rw [HSS.out]
      rw [HEQ.out.1, HEQ.out.2]
      clear hb
      clear e0 e1 e2 e3
      obtain ⟨e0, e1, e2, e3⟩ := HS.out _ HA.out.2.2
      go_wp2_with fail
      rw [← HSS.out]
      refine (has_any (sumOf k.id) w5 (sumOf_len _) HA.out.1).mono ?_
      rintro e w6 ⟨rfl, hb⟩
      replace HA := Lib.hid (HA.out.below hb)
      have HB6 := Lib.hid (HB5.out.trans (hb.mono HB5.out.size))
      rw [HSS.out]
      clear hb HB5
      clear e0 e1 e2 e3
      obtain ⟨e0, e1, e2, e3⟩ := HS.out _ HA.out.2.2
      have hTR : TT ≤ R := by have := HLF.out.2.2; rw [HTT.out] at this; exact this
      have hR8 := HMR.out.2.2
      have hM8 := HMR.out.1
      by_cases hin : sumOf k.id ∈ sums L0
      · rw [decide_eq_true hin]
        go_wp2_with fail
        refine (awake_any _).mono ?_
        rintro e wz ⟨rfl, hbz⟩
        go_wp2_with fail
        go_ret
        have hz1 := HBW.out.trans (HA.out.2.2.mono HBW.out.size)
        exact ⟨rfl, hz1.trans (hbz.mono hz1.size)⟩
      · rw [decide_eq_false hin]
        have HIN := Lib.hid hin
        clear hin
        by_cases hfu : M ≤ NN
        · have hx : (NN : Int) ≥ (M : Int) := by omega
          have hx2 : (M : Int) ≤ (NN : Int) := by omega
          go_wp2_with fail
          refine (awake_any _).mono ?_
          rintro e wz ⟨rfl, hbz⟩
          go_wp2_with fail
          go_ret
          have hz1 := HBW.out.trans (HA.out.2.2.mono HBW.out.size)
          exact ⟨rfl, hz1.trans (hbz.mono hz1.size)⟩
        · have hx : ¬ (NN : Int) ≥ (M : Int) := by omega
          have hx2 : ¬ (M : Int) ≤ (NN : Int) := by omega
          by_cases hla : R - TT < n3
          · have hy : ((R : Int) - (TT : Int)) < (n3 : Int) := by omega
            go_wp2_with fail
            refine (awake_any _).mono ?_
            rintro e wz ⟨rfl, hbz⟩
            go_wp2_with fail
            go_ret
            have hz1 := HBW.out.trans (HA.out.2.2.mono HBW.out.size)
            exact ⟨rfl, hz1.trans (hbz.mono hz1.size)⟩
          · have hy : ¬ ((R : Int) - (TT : Int)) < (n3 : Int) := by omega
            go_wp2_with fail
            have hpr := put_room (M := M) (R := R) (sumOf k.id) k.data HIN.out (by rw [HNN.out]; omega) (by rw [HTT.out, ← HDL.out]; omega)
            have HPR := Lib.hid hpr
            clear hpr hx hx2 hy hfu hla
            refine wp_region_held_drew (S := fun y => y.cell? ⟨w.heap.size, 0, none⟩ = some (.int .i64 k.op) ∧ y.cell? ⟨w.heap.size, 1, none⟩ = some (.int .i64 k.id) ∧ y.cell? ⟨w.heap.size, 2, none⟩ = some (.slice A3 n3 c3) ∧ y.cell? ⟨w.heap.size, 3, none⟩ = some (.int .i64 k.n)) (by kernel_rfl) (HS.out _ (below_drew HA.out.2.2)) (fun hHeld => ?_)
            clear e0 e1 e2 e3
            have HK := Lib.hid ((Kept.ofBelow (below_drew HB6.out)).more (fun i _ e => (Or.inr e : O i ∨ w4.heap.size ≤ i)))
            replace HA := Lib.hid HA.out.drew
            obtain ⟨y0, hy⟩ : ∃ z, w6.drew = z := ⟨_, rfl⟩
            rw [hy] at HA HK hHeld ⊢
            clear hy
            refine wpAnyH_take (i := 0) (oi := { dst := some 68, op := Op.move (Operand.tmp 9), type := 23, pos := "law.go:234", after := #[], guard := none }) (v := .pointer (some ⟨s, 0, none⟩)) rfl (by kernel_rfl) (by kernel_rfl) (by kernel_rfl) (fun _ _ _ h => h) (Or.inl ⟨by rfl, ?hy0_1⟩) (by assumption) ?rest0_1
            case hy0_1 => (intro w hSw; (try dsimp only at hSw); go_split_ands; go_simp; try with_reducible rfl)
            try simp only [Act.put, List.setIfInBounds_toArray, List.set_cons_zero, List.set_cons_succ]
            refine wpAnyH_take (i := 1) (oi := { dst := some 69, op := Op.fieldAddr 34 (Operand.tmp 7) 1, type := 0, pos := "law.go:234", after := #[], guard := none }) (v := .pointer (some ⟨w.heap.size, 1, none⟩)) rfl (by kernel_rfl) (by kernel_rfl) (by kernel_rfl) (fun _ _ _ h => h) (Or.inl ⟨by rfl, ?hy1_2⟩) (by assumption) ?rest1_2
            case hy1_2 => (intro w hSw; (try dsimp only at hSw); go_split_ands; go_simp; try with_reducible rfl)
            try simp only [Act.put, List.setIfInBounds_toArray, List.set_cons_zero, List.set_cons_succ]
            refine wpAnyH_take (i := 2) (oi := { dst := some 70, op := Op.load 3 (Operand.tmp 69), type := 3, pos := "law.go:234", after := #[{ on := 1, ground := Ground.data }], guard := none }) (v := .int .i64 k.id) rfl (by kernel_rfl) (by kernel_rfl) (by kernel_rfl) (fun _ _ _ h => h) (Or.inl ⟨by rfl, ?hy2_3⟩) (by assumption) ?rest2_3
            case hy2_3 => (intro w hSw; (try dsimp only at hSw); go_split_ands; go_simp; try with_reducible rfl)
            try simp only [Act.put, List.setIfInBounds_toArray, List.set_cons_zero, List.set_cons_succ]
            refine wpAnyH_take (i := 4) (oi := { dst := some 72, op := Op.fieldAddr 34 (Operand.tmp 7) 2, type := 0, pos := "law.go:234", after := #[], guard := none }) (v := .pointer (some ⟨w.heap.size, 2, none⟩)) rfl (by kernel_rfl) (by kernel_rfl) (by kernel_rfl) (fun _ _ _ h => h) (Or.inl ⟨by rfl, ?hy4_4⟩) (by assumption) ?rest4_4
            case hy4_4 => (intro w hSw; (try dsimp only at hSw); go_split_ands; go_simp; try with_reducible rfl)
            try simp only [Act.put, List.setIfInBounds_toArray, List.set_cons_zero, List.set_cons_succ]
            refine wpAnyH_take (i := 5) (oi := { dst := some 73, op := Op.load 32 (Operand.tmp 72), type := 32, pos := "law.go:234", after := #[{ on := 4, ground := Ground.data }], guard := none }) (v := .slice A3 n3 c3) rfl (by kernel_rfl) (by kernel_rfl) (by kernel_rfl) (fun _ _ _ h => h) (Or.inl ⟨by rfl, ?hy5_5⟩) (by assumption) ?rest5_5
            case hy5_5 => (intro w hSw; (try dsimp only at hSw); go_split_ands; go_simp; try with_reducible rfl)
            try simp only [Act.put, List.setIfInBounds_toArray, List.set_cons_zero, List.set_cons_succ]
            refine wpAnyH_ready (rs := [3]) (by kernel_rfl) (by simp) ?_
            refine AllReadyH.cons (o := { dst := some 71, op := Op.call { callee := Callee.value (Operand.func 19), args := #[Operand.tmp 70], argTypes := #[3] }, type := 40, pos := "law.go:234", after := #[{ on := 2, ground := Ground.data }], guard := none }) rfl (fun K hK => ?_) AllReadyH.nil
            go_simp
            refine (sum_of k.id _).mono ?_
            rintro e y1 ⟨rfl, hb⟩
            replace HK := Lib.hid (kept_two HK.out (fun i h _ => h) ((Kept.ofBelow hb).more (fun i _ e => (Or.inr e : O i ∨ y0.heap.size ≤ i))))
            replace HA := Lib.hid (HA.out.below hb)
            rw [HSS.out]
            clear hb
            go_wp2_with fail
            refine hK.out _ _ (HS.out _ HA.out.2.2) (fun hHeld => ?_)
            clear hK K
            try simp only [Act.put, List.setIfInBounds_toArray, List.set_cons_zero, List.set_cons_succ]
            refine wpAnyH_ready (rs := [6]) (by kernel_rfl) (by simp) ?_
            refine AllReadyH.cons (o := { dst := some 74, op := Op.call { callee := Callee.value (Operand.func 29), args := #[Operand.tmp 68, Operand.tmp 71, Operand.tmp 73], argTypes := #[23, 40, 32] }, type := 24, pos := "law.go:234", after := #[{ on := 0, ground := Ground.data }, { on := 3, ground := Ground.data }, { on := 5, ground := Ground.data }, { on := 3, ground := Ground.chain }], guard := none }) rfl (fun K hK => ?_) AllReadyH.nil
            go_simp
            rw [← HSS.out]
            refine (put_st (sumOf k.id) k.data A3 n3 c3 W.heap.size y1 (sumOf_len _) HA.out (HR.out.below (HA.out.2.2) (Nat.le_refl _)) (fun i _ hi hO => by have := (HA.out.2.1 i hO).1; omega) HA.out.2.2.size (by omega)).mono ?_
            rintro e y2 ⟨rfl, O2, h2, hk, ho⟩
            rw [HPR.out.2] at h2
            rw [HPR.out.1, HSS.out]
            have hsz1 : w4.heap.size ≤ y1.heap.size := HK.out.size
            replace HK := Lib.hid (kept_two HK.out (fun i h _ => h) hk)
            have HO2 := Lib.hid (fun i h hi => ho i h (Nat.lt_of_lt_of_le hi hsz1) : ∀ i, O2 i → i < w4.heap.size → O i)
            replace HA := Lib.hid h2
            clear h2 hk ho hsz1
            go_wp2_with fail
            refine hK.out _ _ (HS.out _ HA.out.2.2) (fun hHeld => ?_)
            clear hK K
            try simp only [Act.put, List.setIfInBounds_toArray, List.set_cons_zero, List.set_cons_succ]
            refine wpAnyH_take (i := 7) (oi := { dst := some 75, op := Op.binOp BinOp.eql 24 (Operand.tmp 74) (Operand.const (Value.int IntKind.i64 0)) 24, type := 4, pos := "law.go:234", after := #[{ on := 6, ground := Ground.data }], guard := none }) (v := .bool true) rfl (by kernel_rfl) (by kernel_rfl) (by kernel_rfl) (fun _ _ _ h => h) (Or.inl ⟨by rfl, ?hy7_6⟩) (by assumption) ?rest7_6
            case hy7_6 => (intro w hSw; (try dsimp only at hSw); go_split_ands; go_simp; try with_reducible rfl)
            try simp only [Act.put, List.setIfInBounds_toArray, List.set_cons_zero, List.set_cons_succ]
            refine wpAnyH_take (i := 8) (oi := { dst := some 76, op := Op.move (Operand.tmp 75), type := 4, pos := "law.go:234", after := #[{ on := 7, ground := Ground.data }, { on := 6, ground := Ground.chain }], guard := none }) (v := .bool true) rfl (by kernel_rfl) (by kernel_rfl) (by kernel_rfl) (fun _ _ _ h => h) (Or.inl ⟨by rfl, ?hy8_7⟩) (by assumption) ?rest8_7
            case hy8_7 => (intro w hSw; (try dsimp only at hSw); go_split_ands; go_simp; try with_reducible rfl)
            try simp only [Act.put, List.setIfInBounds_toArray, List.set_cons_zero, List.set_cons_succ]
            refine wpAnyH_take (i := 9) (oi := { dst := some 77, op := Op.move (Operand.tmp 9), type := 23, pos := "law.go:234", after := #[{ on := 8, ground := Ground.guard }], guard := some (8, true) }) (v := .pointer (some ⟨s, 0, none⟩)) rfl (by kernel_rfl) (by kernel_rfl) (by kernel_rfl) (fun _ _ _ h => h) (Or.inl ⟨by rfl, ?hy9_8⟩) (by assumption) ?rest9_8
            case hy9_8 => (intro w hSw; (try dsimp only at hSw); go_split_ands; go_simp; try with_reducible rfl)
            try simp only [Act.put, List.setIfInBounds_toArray, List.set_cons_zero, List.set_cons_succ]
            refine wpAnyH_take (i := 11) (oi := { dst := some 79, op := Op.move (Operand.tmp 11), type := 51, pos := "law.go:234", after := #[{ on := 8, ground := Ground.guard }], guard := some (8, true) }) (v := va) rfl (by kernel_rfl) (by kernel_rfl) (by kernel_rfl) (fun _ _ _ h => h) (Or.inl ⟨by rfl, ?hy11_9⟩) (by assumption) ?rest11_9
            case hy11_9 => (intro w hSw; (try dsimp only at hSw); go_split_ands; go_simp; try with_reducible rfl)
            try simp only [Act.put, List.setIfInBounds_toArray, List.set_cons_zero, List.set_cons_succ]
            refine wpAnyH_take (i := 12) (oi := { dst := some 80, op := Op.fieldAddr 34 (Operand.tmp 7) 1, type := 0, pos := "law.go:234", after := #[{ on := 8, ground := Ground.guard }], guard := some (8, true) }) (v := .pointer (some ⟨w.heap.size, 1, none⟩)) rfl (by kernel_rfl) (by kernel_rfl) (by kernel_rfl) (fun _ _ _ h => h) (Or.inl ⟨by rfl, ?hy12_10⟩) (by assumption) ?rest12_10
            case hy12_10 => (intro w hSw; (try dsimp only at hSw); go_split_ands; go_simp; try with_reducible rfl)
            try simp only [Act.put, List.setIfInBounds_toArray, List.set_cons_zero, List.set_cons_succ]
            refine wpAnyH_take (i := 13) (oi := { dst := some 81, op := Op.load 3 (Operand.tmp 80), type := 3, pos := "law.go:234", after := #[{ on := 12, ground := Ground.data }, { on := 8, ground := Ground.guard }], guard := some (8, true) }) (v := .int .i64 k.id) rfl (by kernel_rfl) (by kernel_rfl) (by kernel_rfl) (fun _ _ _ h => h) (Or.inl ⟨by rfl, ?hy13_11⟩) (by assumption) ?rest13_11
            case hy13_11 => (intro w hSw; (try dsimp only at hSw); go_split_ands; go_simp; try with_reducible rfl)
            try simp only [Act.put, List.setIfInBounds_toArray, List.set_cons_zero, List.set_cons_succ]
            refine wpAnyH_ready (rs := [10]) (by kernel_rfl) (by simp) ?_
            refine AllReadyH.cons (o := { dst := some 78, op := Op.call { callee := Callee.value (Operand.func 35), args := #[Operand.tmp 77], argTypes := #[23] }, type := 51, pos := "law.go:234", after := #[{ on := 9, ground := Ground.data }, { on := 8, ground := Ground.chain }, { on := 8, ground := Ground.guard }], guard := some (8, true) }) rfl (fun K hK => ?_) AllReadyH.nil
            go_simp
            refine (list_at2 y2 HA.out).mono ?_
            rintro e y3 ⟨vb, rfl, hRb, hvb, hb⟩
            have HVB := Lib.hid (fun a n c e => Nat.le_trans HK.out.size (hvb a n c e).1 : ∀ a n c, vb = .slice (some a) n c → w4.heap.size ≤ a.block)
            replace HK := Lib.hid (kept_two HK.out HO2.out ((Kept.ofBelow hb).more (fun i _ e => (Or.inr e : O2 i ∨ y2.heap.size ≤ i))))
            replace HA := Lib.hid (HA.out.below hb)
            have HRB := Lib.hid hRb
            clear hb hRb hvb
            go_wp2_with fail
            refine hK.out _ _ (HS.out _ HA.out.2.2) (fun hHeld => ?_)
            clear hK K
            try simp only [Act.put, List.setIfInBounds_toArray, List.set_cons_zero, List.set_cons_succ]
            refine wpAnyH_ready (rs := [14]) (by kernel_rfl) (by simp) ?_
            refine AllReadyH.cons (o := { dst := some 82, op := Op.call { callee := Callee.value (Operand.func 19), args := #[Operand.tmp 81], argTypes := #[3] }, type := 40, pos := "law.go:234", after := #[{ on := 13, ground := Ground.data }, { on := 10, ground := Ground.chain }, { on := 8, ground := Ground.guard }], guard := some (8, true) }) rfl (fun K hK => ?_) AllReadyH.nil
            go_simp
            refine (sum_of k.id _).mono ?_
            rintro e y4 ⟨rfl, hb⟩
            replace HK := Lib.hid (kept_two HK.out HO2.out ((Kept.ofBelow hb).more (fun i _ e => (Or.inr e : O2 i ∨ y3.heap.size ≤ i))))
            replace HA := Lib.hid (HA.out.below hb)
            replace HRB := Lib.hid (HRB.out.keep hb)
            rw [HSS.out]
            clear hb
            go_wp2_with fail
            refine hK.out _ _ (HS.out _ HA.out.2.2) (fun hHeld => ?_)
            clear hK K
            try simp only [Act.put, List.setIfInBounds_toArray, List.set_cons_zero, List.set_cons_succ]
            refine wpAnyH_ready (rs := [15]) (by kernel_rfl) (by simp) ?_
            refine AllReadyH.cons (o := { dst := some 83, op := Op.buildSlice 51 1 #[(0, Operand.tmp 82)], type := 51, pos := "law.go:234", after := #[{ on := 14, ground := Ground.data }, { on := 8, ground := Ground.guard }], guard := some (8, true) }) rfl (fun K hK => ?_) AllReadyH.nil
            refine (if_pos (by rfl)).mpr ?_
            have hbs := build_sums (sumOf k.id) (sumOf_len _) y4
            rw [HSS.out] at hbs
            refine wp_buildSlice 51 1 #[(0, .tmp 82)] rfl #[(0, .agg SS)] (by kernel_rfl) _ _ hbs ?_
            have hnc := rng_new y4 (bv (sumOf k.id)) 40
            have hb : Below y4.heap.size y4 (y4.alloc (.cells (bv (sumOf k.id)).toArray 40)) := (Below.refl _ _).alloc (Nat.le_refl _) _
            replace HK := Lib.hid (kept_two HK.out HO2.out ((Kept.ofBelow hb).more (fun i _ e => (Or.inr e : O2 i ∨ y4.heap.size ≤ i))))
            replace HA := Lib.hid (HA.out.below hb)
            replace HRB := Lib.hid (HRB.out.keep hb)
            rw [← HSS.out]
            obtain ⟨y5, hy5⟩ : ∃ z, y4.alloc (.cells (bv (sumOf k.id)).toArray 40) = z := ⟨_, rfl⟩
            obtain ⟨gn, hgn⟩ : ∃ z, y4.heap.size = z := ⟨_, rfl⟩
            rw [HSS.out] at *
            rw [hy5] at HA HK HRB hnc ⊢
            rw [hgn] at hnc ⊢
            have HNC := Lib.hid hnc
            clear hbs hnc hb hy5 hgn
            refine hK.out _ _ (HS.out _ HA.out.2.2) (fun hHeld => ?_)
            clear hK K
            try simp only [Act.put, List.setIfInBounds_toArray, List.set_cons_zero, List.set_cons_succ]
            refine wpAnyH_ready (rs := [16]) (by kernel_rfl) (by simp) ?_
            refine AllReadyH.cons (o := { dst := some 84, op := Op.call { callee := Callee.builtin Builtin.append, args := #[Operand.tmp 79, Operand.tmp 83], argTypes := #[51, 51] }, type := 51, pos := "law.go:234", after := #[{ on := 11, ground := Ground.data }, { on := 15, ground := Ground.data }, { on := 14, ground := Ground.chain }, { on := 8, ground := Ground.guard }], guard := some (8, true) }) rfl (fun K hK => ?_) AllReadyH.nil
            refine (if_pos (by rfl)).mpr ?_
            obtain ⟨i0, z0, hi0, hz0, hz1, hz2, hz3⟩ := info_sum4
            have how5 := HOW.out.kept HK.out (fun i hB hi e => by
              rcases e with e | e
              · have := HO4.out.1 _ e; omega
              · omega)
            refine wp_appendN (.tmp 79) (.tmp 83) 51 rfl w2.heap.size 40 i0 z0 32 32 Try.underlying51 hi0 hz0 hz1 hz2 hz3 (by decide) va (sums L0).length (svs (sums L0)) rfl how5 ⟨gn, 0, none⟩ 1 1 (bv (sumOf k.id)) rfl (by rw [bv_len, sumOf_len]) (fun j u hu => ?_) (bv_one _) (by have := HLF.out.2.1; unfold sums maxLen; rw [List.length_map]; omega) (by have := HLF.out.2.1; unfold sums; rw [List.length_map]; omega) (by have := HO4.out.2; have := HK.out.size; omega) (fun v' y6 hown' hgrow => ?_)
            · rw [Addr.add_lit]; exact HNC.out j u hu
            have hblk := HOW.out.block
            have hk6 : Kept y5 y6 (fun i => va.ownBlock = some i) := Kept.of hgrow
            have hA6 := HA.out.off hk6 (fun i hi hO e => by
              obtain ⟨q1, q2⟩ := hblk i e
              have := HO4.out.1 i (HO2.out i hO q2)
              omega) (fun i hi e => by
              obtain ⟨q1, q2⟩ := hblk i e
              have := HW2.out
              omega)
            have hRb6 := HRB.out.kept hk6 (fun a n c e e2 => by
              obtain ⟨q1, q2⟩ := hblk _ e2
              have := HVB.out a n c e
              omega)
            have hv6 : OwS y6 w2.heap.size v' (sums L0 ++ [sumOf k.id]) := OwS.more hown'
            have hl6 : ∀ x ∈ sums L0 ++ [sumOf k.id], x.length = 32 := fun x hx => by
              rcases List.mem_append.1 hx with h | h
              · obtain ⟨e, he, rfl⟩ := List.mem_map.1 h
                exact HLF.out.1 e he
              · rw [List.mem_singleton.1 h]; exact sumOf_len _
            have hf6 : (sums L0 ++ [sumOf k.id]).length ≤ 100000 := by have := HLF.out.2.1; simp [sums]; omega
            have HRR := Lib.hid (And.intro hRb6 (And.intro (rds_of_row hv6 hl6) hf6))
            replace HA := Lib.hid hA6
            clear hblk hk6 hA6 hRb6 hv6 hl6 hf6 how5 hown' hgrow HK HRB HNC
            refine hK.out _ _ (HS.out _ HA.out.2.2) (fun hHeld => ?_)
            clear hK K
            try simp only [Act.put, List.setIfInBounds_toArray, List.set_cons_zero, List.set_cons_succ]
            refine wpAnyH_ready (rs := [17]) (by kernel_rfl) (by simp) ?_
            refine AllReadyH.cons (o := { dst := some 85, op := Op.call { callee := Callee.value (Operand.func 34), args := #[Operand.tmp 78, Operand.tmp 84], argTypes := #[51, 51] }, type := 4, pos := "law.go:234", after := #[{ on := 10, ground := Ground.data }, { on := 16, ground := Ground.data }, { on := 16, ground := Ground.chain }, { on := 8, ground := Ground.guard }], guard := some (8, true) }) rfl (fun K hK => ?_) AllReadyH.nil
            go_simp
            rw [sums_last] at HRR
            refine (eqs_any (sums L0 ++ [sumOf k.id]) (sums L0 ++ [sumOf k.id]) vb v' y6 HRR.out.1 HRR.out.2.1 HRR.out.2.2 HRR.out.2.2).mono ?_
            rintro e y7 ⟨rfl, hb⟩
            rw [decide_eq_true rfl]
            replace HA := Lib.hid (HA.out.below hb)
            clear hb HRR
            go_wp2_with fail
            refine hK.out _ _ (HS.out _ HA.out.2.2) (fun hHeld => ?_)
            clear hK K
            try simp only [Act.put, List.setIfInBounds_toArray, List.set_cons_zero, List.set_cons_succ]
            refine wpAnyH_take (i := 18) (oi := { dst := some 86, op := Op.pick (Operand.tmp 76) (Operand.tmp 85) (Operand.const (Value.bool false)), type := 4, pos := "law.go:234", after := #[{ on := 8, ground := Ground.data }, { on := 17, ground := Ground.data }], guard := none }) (v := .bool true) rfl (by kernel_rfl) (by kernel_rfl) (by kernel_rfl) (fun _ _ _ h => h) (Or.inl ⟨by rfl, ?hy18_12⟩) (by assumption) ?rest18_12
            case hy18_12 => (intro w hSw; (try dsimp only at hSw); go_split_ands; go_simp; try with_reducible rfl)
            try simp only [Act.put, List.setIfInBounds_toArray, List.set_cons_zero, List.set_cons_succ]
            refine wpAnyH_take (i := 19) (oi := { dst := some 87, op := Op.move (Operand.tmp 86), type := 4, pos := "law.go:234", after := #[{ on := 18, ground := Ground.data }, { on := 17, ground := Ground.chain }], guard := none }) (v := .bool true) rfl (by kernel_rfl) (by kernel_rfl) (by kernel_rfl) (fun _ _ _ h => h) (Or.inl ⟨by rfl, ?hy19_13⟩) (by assumption) ?rest19_13
            case hy19_13 => (intro w hSw; (try dsimp only at hSw); go_split_ands; go_simp; try with_reducible rfl)
            try simp only [Act.put, List.setIfInBounds_toArray, List.set_cons_zero, List.set_cons_succ]
            refine wpAnyH_take (i := 20) (oi := { dst := some 88, op := Op.move (Operand.tmp 9), type := 23, pos := "law.go:234", after := #[{ on := 19, ground := Ground.guard }], guard := some (19, true) }) (v := .pointer (some ⟨s, 0, none⟩)) rfl (by kernel_rfl) (by kernel_rfl) (by kernel_rfl) (fun _ _ _ h => h) (Or.inl ⟨by rfl, ?hy20_14⟩) (by assumption) ?rest20_14
            case hy20_14 => (intro w hSw; (try dsimp only at hSw); go_split_ands; go_simp; try with_reducible rfl)
            try simp only [Act.put, List.setIfInBounds_toArray, List.set_cons_zero, List.set_cons_succ]
            refine wpAnyH_take (i := 22) (oi := { dst := some 90, op := Op.move (Operand.tmp 13), type := 3, pos := "law.go:234", after := #[{ on := 19, ground := Ground.guard }], guard := some (19, true) }) (v := .int .i64 (TT : Nat)) rfl (by kernel_rfl) (by kernel_rfl) (by kernel_rfl) (fun _ _ _ h => h) (Or.inl ⟨by rfl, ?hy22_15⟩) (by assumption) ?rest22_15
            case hy22_15 => (intro w hSw; (try dsimp only at hSw); go_split_ands; go_simp; try with_reducible rfl)
            try simp only [Act.put, List.setIfInBounds_toArray, List.set_cons_zero, List.set_cons_succ]
            refine wpAnyH_take (i := 23) (oi := { dst := some 91, op := Op.fieldAddr 34 (Operand.tmp 7) 2, type := 0, pos := "law.go:234", after := #[{ on := 19, ground := Ground.guard }], guard := some (19, true) }) (v := .pointer (some ⟨w.heap.size, 2, none⟩)) rfl (by kernel_rfl) (by kernel_rfl) (by kernel_rfl) (fun _ _ _ h => h) (Or.inl ⟨by rfl, ?hy23_16⟩) (by assumption) ?rest23_16
            case hy23_16 => (intro w hSw; (try dsimp only at hSw); go_split_ands; go_simp; try with_reducible rfl)
            try simp only [Act.put, List.setIfInBounds_toArray, List.set_cons_zero, List.set_cons_succ]
            refine wpAnyH_take (i := 24) (oi := { dst := some 92, op := Op.load 32 (Operand.tmp 91), type := 32, pos := "law.go:234", after := #[{ on := 23, ground := Ground.data }, { on := 19, ground := Ground.guard }], guard := some (19, true) }) (v := .slice A3 n3 c3) rfl (by kernel_rfl) (by kernel_rfl) (by kernel_rfl) (fun _ _ _ h => h) (Or.inl ⟨by rfl, ?hy24_17⟩) (by assumption) ?rest24_17
            case hy24_17 => (intro w hSw; (try dsimp only at hSw); go_split_ands; go_simp; try with_reducible rfl)
            try simp only [Act.put, List.setIfInBounds_toArray, List.set_cons_zero, List.set_cons_succ]
            refine wpAnyH_take (i := 25) (oi := { dst := some 93, op := Op.call { callee := Callee.builtin Builtin.len, args := #[Operand.tmp 92], argTypes := #[32] }, type := 3, pos := "law.go:234", after := #[{ on := 24, ground := Ground.data }, { on := 19, ground := Ground.guard }], guard := some (19, true) }) (v := .int .i64 (n3 : Nat)) rfl (by kernel_rfl) (by kernel_rfl) (by kernel_rfl) (fun _ _ _ h => h) (Or.inl ⟨by rfl, ?hy25_18⟩) (by assumption) ?rest25_18
            case hy25_18 => (intro w hSw; (try dsimp only at hSw); go_split_ands; go_simp; try with_reducible rfl)
            try simp only [Act.put, List.setIfInBounds_toArray, List.set_cons_zero, List.set_cons_succ]
            refine wpAnyH_take (i := 26) (oi := { dst := some 94, op := Op.binOp BinOp.add 3 (Operand.tmp 90) (Operand.tmp 93) 3, type := 3, pos := "law.go:234", after := #[{ on := 22, ground := Ground.data }, { on := 25, ground := Ground.data }, { on := 19, ground := Ground.guard }], guard := some (19, true) }) (v := .int .i64 ((TT + n3 : Nat) : Int)) rfl (by kernel_rfl) (by kernel_rfl) (by kernel_rfl) (fun _ _ _ h => h) (Or.inl ⟨by rfl, ?hy26_z⟩) (by assumption) ?rest26_z
            case hy26_z => (intro w hSw; (try dsimp only at hSw); go_split_ands; go_simp; (try rw [IntKind.wrap_i64]); (try unfold wrap64); (try omega))
            try simp only [Act.put, List.setIfInBounds_toArray, List.set_cons_zero, List.set_cons_succ]
            refine wpAnyH_ready (rs := [21]) (by kernel_rfl) (by simp) ?_
            refine AllReadyH.cons (o := { dst := some 89, op := Op.call { callee := Callee.value (Operand.func 32), args := #[Operand.tmp 88], argTypes := #[23] }, type := 3, pos := "law.go:234", after := #[{ on := 20, ground := Ground.data }, { on := 19, ground := Ground.chain }, { on := 19, ground := Ground.guard }], guard := some (19, true) }) rfl (fun K hK => ?_) AllReadyH.nil
            go_simp
            refine (bytes_any y7 HA.out.1).mono ?_
            rintro e w' ⟨rfl, rfl⟩
            rw [total_last, HTT.out, ← HDL.out]
            go_wp2_with fail
            refine hK.out _ _ (HS.out _ HA.out.2.2) (fun hHeld => ?_)
            clear hK K
            try simp only [Act.put, List.setIfInBounds_toArray, List.set_cons_zero, List.set_cons_succ]
            refine wpAnyH_take (i := 27) (oi := { dst := some 95, op := Op.binOp BinOp.eql 3 (Operand.tmp 89) (Operand.tmp 94) 3, type := 4, pos := "law.go:234", after := #[{ on := 21, ground := Ground.data }, { on := 26, ground := Ground.data }, { on := 19, ground := Ground.guard }], guard := some (19, true) }) (v := .bool true) rfl (by kernel_rfl) (by kernel_rfl) (by kernel_rfl) (fun _ _ _ h => h) (Or.inl ⟨by rfl, ?hy27_20⟩) (by assumption) ?rest27_20
            case hy27_20 => (intro w hSw; (try dsimp only at hSw); go_split_ands; go_simp; try with_reducible rfl)
            try simp only [Act.put, List.setIfInBounds_toArray, List.set_cons_zero, List.set_cons_succ]
            refine wpAnyH_take (i := 28) (oi := { dst := some 96, op := Op.pick (Operand.tmp 87) (Operand.tmp 95) (Operand.const (Value.bool false)), type := 4, pos := "law.go:234", after := #[{ on := 19, ground := Ground.data }, { on := 27, ground := Ground.data }], guard := none }) (v := .bool true) rfl (by kernel_rfl) (by kernel_rfl) (by kernel_rfl) (fun _ _ _ h => h) (Or.inl ⟨by rfl, ?hy28_21⟩) (by assumption) ?rest28_21
            case hy28_21 => (intro w hSw; (try dsimp only at hSw); go_split_ands; go_simp; try with_reducible rfl)
            try simp only [Act.put, List.setIfInBounds_toArray, List.set_cons_zero, List.set_cons_succ]
            refine wpAnyH_take (i := 29) (oi := { dst := some 97, op := Op.move (Operand.tmp 96), type := 4, pos := "law.go:234", after := #[{ on := 28, ground := Ground.data }, { on := 21, ground := Ground.chain }], guard := none }) (v := .bool true) rfl (by kernel_rfl) (by kernel_rfl) (by kernel_rfl) (fun _ _ _ h => h) (Or.inl ⟨by rfl, ?hy29_22⟩) (by assumption) ?rest29_22
            case hy29_22 => (intro w hSw; (try dsimp only at hSw); go_split_ands; go_simp; try with_reducible rfl)
            try simp only [Act.put, List.setIfInBounds_toArray, List.set_cons_zero, List.set_cons_succ]
            refine wpAnyH_ready (rs := [30]) (by kernel_rfl) (by simp) ?_
            refine AllReadyH.cons (o := { dst := some 98, op := Op.call { callee := Callee.value (Operand.func 16), args := #[], argTypes := #[] }, type := 4, pos := "law.go:234", after := #[{ on := 29, ground := Ground.chain }, { on := 29, ground := Ground.guard }], guard := some (29, true) }) rfl (fun K hK => ?_) AllReadyH.nil
            go_simp
            refine (awake_any _).mono ?_
            rintro e y8 ⟨rfl, hb⟩
            replace HA := Lib.hid (HA.out.below hb)
            clear hb
            go_wp2_with fail
            refine hK.out _ _ (HS.out _ HA.out.2.2) (fun hHeld => ?_)
            clear hK K
            try simp only [Act.put, List.setIfInBounds_toArray, List.set_cons_zero, List.set_cons_succ]
            refine wpAnyH_take (i := 31) (oi := { dst := some 99, op := Op.pick (Operand.tmp 97) (Operand.tmp 98) (Operand.const (Value.bool false)), type := 4, pos := "law.go:234", after := #[{ on := 29, ground := Ground.data }, { on := 30, ground := Ground.data }], guard := none }) (v := .bool true) rfl (by kernel_rfl) (by kernel_rfl) (by kernel_rfl) (fun _ _ _ h => h) (Or.inl ⟨by rfl, ?hy31_23⟩) (by assumption) ?rest31_23
            case hy31_23 => (intro w hSw; (try dsimp only at hSw); go_split_ands; go_simp; try with_reducible rfl)
            try simp only [Act.put, List.setIfInBounds_toArray, List.set_cons_zero, List.set_cons_succ]
            refine wpAnyH_take (i := 32) (oi := { dst := some 8, op := Op.assign (Operand.tmp 99), type := 4, pos := "law.go:234", after := #[{ on := 31, ground := Ground.data }, { on := 30, ground := Ground.chain }, { on := 0, ground := Ground.phase }, { on := 1, ground := Ground.phase }, { on := 2, ground := Ground.phase }, { on := 3, ground := Ground.phase }, { on := 4, ground := Ground.phase }, { on := 5, ground := Ground.phase }, { on := 6, ground := Ground.phase }, { on := 7, ground := Ground.phase }, { on := 8, ground := Ground.phase }, { on := 9, ground := Ground.phase }, { on := 10, ground := Ground.phase }, { on := 11, ground := Ground.phase }, { on := 12, ground := Ground.phase }, { on := 13, ground := Ground.phase }, { on := 14, ground := Ground.phase }, { on := 15, ground := Ground.phase }, { on := 16, ground := Ground.phase }, { on := 17, ground := Ground.phase }, { on := 18, ground := Ground.phase }, { on := 19, ground := Ground.phase }, { on := 20, ground := Ground.phase }, { on := 21, ground := Ground.phase }, { on := 22, ground := Ground.phase }, { on := 23, ground := Ground.phase }, { on := 24, ground := Ground.phase }, { on := 25, ground := Ground.phase }, { on := 26, ground := Ground.phase }, { on := 27, ground := Ground.phase }, { on := 28, ground := Ground.phase }, { on := 29, ground := Ground.phase }, { on := 30, ground := Ground.phase }, { on := 31, ground := Ground.phase }], guard := none }) (v := .bool true) rfl (by kernel_rfl) (by kernel_rfl) (by kernel_rfl) (fun _ _ _ h => h) (Or.inl ⟨by rfl, ?hy32_24⟩) (by assumption) ?rest32_24
            case hy32_24 => (intro w hSw; (try dsimp only at hSw); go_split_ands; go_simp; try with_reducible rfl)
            try simp only [Act.put, List.setIfInBounds_toArray, List.set_cons_zero, List.set_cons_succ]
            refine wpAnyH_done (by kernel_rfl) ?_ _
            go_wp2_with fail
            go_ret
            exact ⟨rfl, HBW.out.trans (HA.out.2.2.mono HBW.out.size)⟩
end Go.Proofs.Ytnmifaohmafobaa.storeLeastDone
namespace Go.Proofs.Ytnmifaohmafobaa.storeLeastDone
open Go.ChangeShapes Go.WideShapes Go.ChangeAt Go.RowKit Mem st Go.Shelf SM
set_option linter.unusedVariables false
theorem own : ownKnob Try.prog.godebug = none := by kernel_rfl
theorem laidOut : laidOutB Try.prog = true := by kernel_rfl
set_option maxRecDepth 100000 in
theorem lifted (os : Os) (started : os.Started) (H : Type) (enc : TypeId × Value → H) :
    ReturnsInHanded {} Try.checked os 7 .any (Rows.storeLeastSpec.pre6 enc Try.prog Try.f7 Rows.storeLeastRow.domain false) (Rows.storeLeastSpec.post enc Try.prog Try.f7 false true false false) := by
  refine returnsInHanded_of_change (C := Try.checked) own started (by kernel_rfl) Try.func7
    (ChangeSpec.witness6 (enc := enc) (C := Try.checked) false ⟨#[], #[.int .i64 0, .int .i64 0, .slice none 0 0, .agg #[.int .i64 0, .int .i64 0, .slice none 0 0, .int .i64 0]], []⟩ 8 (by kernel_rfl) (by kernel_rfl) (by kernel_rfl) (by kernel_rfl)) ?_
  intro W base args ds gs before hval0 hW hcnd _
  have hval : ∀ (j : Nat) t v, Try.f7.params[j]? = some t → args[j]? = some v → Value.okWide Try.prog W .any base t v := hval0
  have hW' := hW
  obtain ⟨p, q, hA0, hV, rfl, hfz, hnd⟩ := hW
  have hA : DataW.TrodAll enc Try.prog W 0 (fun _ => true) true Try.f7.params.toList args.toList ds p := hA0
  rw [Try.params7] at hA hval
  obtain ⟨v0, vs0, d0, ds0, p0, q0, hargs, rfl, rfl, h0, r0⟩ := trodAll_cons hA
  obtain ⟨v1, vs1, d1, ds1, p1, q1, rfl, rfl, rfl, h1, r1⟩ := trodAll_cons r0
  obtain ⟨v2, vs2, d2, ds2, p2, q2, rfl, rfl, rfl, h2, r2⟩ := trodAll_cons r1
  obtain ⟨v3, vs3, d3, ds3, p3, q3, rfl, rfl, rfl, h3, r3⟩ := trodAll_cons r2
  obtain ⟨rfl, rfl, rfl⟩ := trodAll_nil r3
  obtain rfl : args = #[v0, v1, v2, v3] := by cases args; simp_all
  obtain ⟨rfl, rfl⟩ := trodVars_none hV
  obtain ⟨a0, rfl, rfl, rfl, w0⟩ := open_int Try.underlying3 (hval 0 3 v0 rfl rfl) h0
  obtain ⟨a1, rfl, rfl, rfl, w1⟩ := open_int Try.underlying3 (hval 1 3 v1 rfl rfl) h1
  obtain ⟨a2, n2, c2, rfl⟩ := okWide_slice Try.underlying22 (hval 2 22 v2 rfl rfl)
  have k2 := h2
  have lt2 : ∀ x ∈ p2, x.block < W.heap.size := by obtain ⟨m, hm⟩ := k2; exact DataW.trod_lt m _ _ _ hm
  obtain ⟨l2, w2, m2, b2⟩ : ∃ l : List DoV, Dos W W.heap.size a2 n2 l ∧ n2 ≤ c2 ∧ n2 ≤ 9223372036854775807 := by
    obtain ⟨fuel, hf⟩ := h2
    exact open_dos hf
  have k3 := h3
  have lt3 : ∀ x ∈ p3, x.block < W.heap.size := by obtain ⟨m, hm⟩ := k3; exact DataW.trod_lt m _ _ _ hm
  obtain ⟨K3, A3, n3, c3, rfl, w3, m3, b3⟩ := open_do (hval 3 34 v3 rfl rfl) h3
  clear hA0 hval0
  refine (walk a0 a1 a2 n2 c2 l2 K3 A3 n3 c3 W w0 w1 w2 m2 b2 w3 m3 b3).mono fun e W' ⟨he, bel⟩ => ?_
  subst he
  exact ⟨_, rfl, _, _, _, [], _, [], hW', trodAll_mk1 (shut_bool Try.underlying4 _), (trodAll_cons_mk (shut_int Try.underlying3 w0) (trodAll_cons_mk (shut_int Try.underlying3 w1) (trodAll_cons_mk (Below.trod laidOut (by kernel_rfl) (of_decide_eq_true (by kernel_rfl)) k2 bel lt2) (trodAll_cons_mk (Below.trod laidOut (by kernel_rfl) (of_decide_eq_true (by kernel_rfl)) k3 bel lt3) trodAll_mk0)))), rfl, bel.frame _, fun h => by cases h⟩

theorem over : Rows.storeLeastRow.holds Try.pinned (OpenSpec.ofChange Rows.storeLeastSpec) :=
  OpenClaim.holds_of_wide 7 Try.f7 rfl rfl rfl rfl rfl rfl rfl ⟨rfl, rfl, rfl, rfl, rfl⟩ rfl rfl rfl rfl rfl (by kernel_rfl) Try.func7 (by kernel_rfl)
    (of_decide_eq_true (by kernel_rfl)) (by unfold Func.isWrapper; first | (rw [if_pos (by decide +kernel)]; kernel_rfl) | (rw [if_neg (by decide +kernel)]; exact ⟨rfl, rfl⟩))
    (fun os started H enc _ => lifted os started H enc)
/-- the given statement -/
theorem proved : Rows.StoreLeastSaid := over
#print axioms proved
end Go.Proofs.Ytnmifaohmafobaa.storeLeastDone
