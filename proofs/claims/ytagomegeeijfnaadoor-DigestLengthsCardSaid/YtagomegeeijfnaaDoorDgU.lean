/- The document's digest: a block. -/
import Derived.Test.YtagomegeeijfnaaDoorDgT
namespace Go.Proofs.YtagomegeeijfnaaDoor.dg
open Go.RowKit Mem DM
set_option linter.unusedVariables false
set_option linter.unusedSimpArgs false
theorem u32tyB : Ty1 Tryd.prog 39 41 (.int .u32 0) 4 :=
  ⟨Tryd.underlying39, by
    have h : (Tryd.prog.info? 41).map (fun i => (i.zero, i.size, i.bytes)) = some (some (.int .u32 0), 1, 4) := by kernel_rfl
    obtain ⟨i, h1, h2, h3, h4⟩ := info_parts h
    exact ⟨i, h1, h2, h3, h4⟩, rfl⟩
theorem below_drew' {B : Nat} {w w' : World} (h : Below B w w') : Below B w w'.drew := ⟨h.os, h.tape, h.output, h.size, h.block⟩
theorem below_app {B : Nat} {w w1 w2 w3 : World} {A A' : Option Addr} (h : Below w.heap.size w w1) (hg : Grew w1 w3 A A') (hA : ∀ k, blk A = some k → w.heap.size ≤ k) : Below w.heap.size w w3 := h.trans (hg.below h.size hA)
theorem word_val (b : List UInt8) (t : Nat) (h : 4 * t + 3 < b.length) (x0 x1 x2 x3 : UInt8) (h0 : b[4 * t]? = some x0) (h1 : b[4 * t + 1]? = some x1) (h2 : b[4 * t + 2]? = some x2) (h3 : b[4 * t + 3]? = some x3) :
    (word b t).toNat = x0.toNat * 16777216 + x1.toNat * 65536 + x2.toNat * 256 + x3.toNat := by
  have e : (b.drop (4 * t)).take 4 = [x0, x1, x2, x3] := by
    refine List.ext_getElem? fun i => ?_
    match i with
    | 0 => simp [List.getElem?_drop, h0]
    | 1 => simp [List.getElem?_drop, h1]
    | 2 => simp [List.getElem?_drop, h2]
    | 3 => simp [List.getElem?_drop, h3]
    | i + 4 => rw [List.getElem?_eq_none (by simp; omega), List.getElem?_eq_none (by simp)]
  unfold word
  rw [e]
  have g0 := x0.toNat_lt
  have g1 := x1.toNat_lt
  have g2 := x2.toNat_lt
  have g3 := x3.toNat_lt
  have hw : wd [x0, x1, x2, x3] = x0.toNat * 16777216 + x1.toNat * 65536 + x2.toNat * 256 + x3.toNat := by simp [wd]; omega
  rw [hw, UInt32.toNat_ofNat', Nat.mod_eq_of_lt (by omega)]
theorem sub_not (x : UInt32) : IntKind.u32.wrap (4294967295 - (x.toNat : Int)) = ((~~~x).toNat : Int) := by
  rw [wrap_u32, UInt32.toNat_not]
  have h := x.toNat_lt
  show _ = ((4294967296 - 1 - x.toNat : Nat) : Int)
  omega
theorem mixed_at (st : St) (ws : List UInt32) (j : Nat) (h : j < 8) : (stL (mixed st ws)).take (j + 1) = (stL (mixed st ws)).take j ++ [(stL st).getD j 0 + (stL (roundsN st cubes ws 64)).getD j 0] := by
  match j, h with
  | 0, _ => rfl
  | 1, _ => rfl
  | 2, _ => rfl
  | 3, _ => rfl
  | 4, _ => rfl
  | 5, _ => rfl
  | 6, _ => rfl
  | 7, _ => rfl
set_option maxRecDepth 100000 in
set_option maxHeartbeats 16000000 in
theorem refBlock_any (st : St) (A0 A1 A2 : Option Addr) (c0 c1 c2 B : Nat) (L : List UInt8) (hL : L.length = 64) (w : World) (hs : Rd w B A0 8 (wvs (stL st))) (hk : Rd w B A1 64 (wvs cubes)) (hb : Rd w B A2 64 (bv L)) (hB : B ≤ w.heap.size) (hc0 : 8 ≤ c0) :
    Calls Tryd.prog 20 #[.slice A0 8 c0, .slice A1 64 c1, .slice A2 64 c2] w fun e w' => ∃ A c, e = .returned (.slice A 8 c) ∧ Ow w' w.heap.size 41 A 8 c (wvs (stL (mixed st (wordsN L 64)))) ∧ Below w.heap.size w w' := by
  have H := Lib.hid (And.intro hs (And.intro hk hb))
  clear hs hk
  obtain ⟨b2, o2, rfl, hb2, hcb⟩ := hb.addr (by omega)
  have HCB := Lib.hid hcb
  clear hb hcb
  go_enter Tryd.func20, Tryd.ntmps20
  go_wp2_with fail
  go_loopw [7, 19] (fun v i wr => ∃ (t : Nat) (A : Option Addr) (d : Nat), v = .slice A t d ∧ i = .int .i64 (t : Int) ∧ t ≤ 64 ∧ Hid (Ow wr w.heap.size 41 A t d (wvs (wordsN L t)) ∧ Below w.heap.size w wr)) (fun _ i _ => 64 - (intOf i).toNat)
  case atStart => exact ⟨0, none, 0, rfl, rfl, by omega, Lib.hid ⟨Ow.nil _ _ _, Below.refl _ _⟩⟩
  case round =>
    obtain ⟨t, A, d, rfl, rfl, ht, HR⟩ := hrel
    have hws := HR.out.2.size
    have hb2w : b2 < w.heap.size := by omega
    by_cases hlt : t < 64
    · have k64 : (t : Int) < 64 := by omega
      by_cases h16 : t < 16
      · have k16 : (t : Int) < 16 := by omega
        obtain ⟨x0, hx0⟩ : ∃ x, L[4 * t]? = some x := ⟨_, List.getElem?_eq_getElem (by omega)⟩
        obtain ⟨x1, hx1⟩ : ∃ x, L[4 * t + 1]? = some x := ⟨_, List.getElem?_eq_getElem (by omega)⟩
        obtain ⟨x2, hx2⟩ : ∃ x, L[4 * t + 2]? = some x := ⟨_, List.getElem?_eq_getElem (by omega)⟩
        obtain ⟨x3, hx3⟩ : ∃ x, L[4 * t + 3]? = some x := ⟨_, List.getElem?_eq_getElem (by omega)⟩
        have hcl : ∀ (k : Nat) (x : UInt8), k < 64 → L[k]? = some x → w.cell? ⟨b2, o2 + k, none⟩ = some (.int .u8 (x.toNat : Int)) := fun k x hk hx => by
          rw [HCB.out k hk]
          simp [bv, hx]
        have e0 := hcl (4 * t) x0 (by omega) hx0
        have e1 := hcl (4 * t + 1) x1 (by omega) hx1
        have e2 := hcl (4 * t + 2) x2 (by omega) hx2
        have e3 := hcl (4 * t + 3) x3 (by omega) hx3
        have hw := word_val L t (by omega) x0 x1 x2 x3 hx0 hx1 hx2 hx3
        have g0 := x0.toNat_lt
        have g1 := x1.toNat_lt
        have g2 := x2.toNat_lt
        have g3 := x3.toNat_lt
        obtain ⟨N0, hN0⟩ : ∃ z, x0.toNat = z := ⟨_, rfl⟩
        obtain ⟨N1, hN1⟩ : ∃ z, x1.toNat = z := ⟨_, rfl⟩
        obtain ⟨N2, hN2⟩ : ∃ z, x2.toNat = z := ⟨_, rfl⟩
        obtain ⟨N3, hN3⟩ : ∃ z, x3.toNat = z := ⟨_, rfl⟩
        rw [hN0] at e0 g0 hw
        rw [hN1] at e1 g1 hw
        rw [hN2] at e2 g2 hw
        rw [hN3] at e3 g3 hw
        obtain ⟨q0, hq0⟩ : ∃ q, 4 * t = q := ⟨_, rfl⟩
        obtain ⟨q1, hq1⟩ : ∃ q, q0 + 1 = q := ⟨_, rfl⟩
        obtain ⟨q2, hq2⟩ : ∃ q, q0 + 2 = q := ⟨_, rfl⟩
        obtain ⟨q3, hq3⟩ : ∃ q, q0 + 3 = q := ⟨_, rfl⟩
        obtain ⟨P0, hP0⟩ : ∃ q, N0 * 16777216 = q := ⟨_, rfl⟩
        obtain ⟨P1, hP1⟩ : ∃ q, N1 * 65536 = q := ⟨_, rfl⟩
        obtain ⟨P2, hP2⟩ : ∃ q, N2 * 256 = q := ⟨_, rfl⟩
        obtain ⟨S1, hS1⟩ : ∃ q, P0 + P1 = q := ⟨_, rfl⟩
        obtain ⟨S2, hS2⟩ : ∃ q, S1 + P2 = q := ⟨_, rfl⟩
        obtain ⟨NW, hNW⟩ : ∃ q, (word L t).toNat = q := ⟨_, rfl⟩
        rw [hNW] at hw
        have f0 : IntKind.i64.wrap (4 * (t : Int)) = (q0 : Int) := by rw [IntKind.wrap_i64]; omega
        have f1 : IntKind.i64.wrap ((q0 : Int) + 1) = (q1 : Int) := by rw [IntKind.wrap_i64]; omega
        have f2 : IntKind.i64.wrap ((q0 : Int) + 2) = (q2 : Int) := by rw [IntKind.wrap_i64]; omega
        have f3 : IntKind.i64.wrap ((q0 : Int) + 3) = (q3 : Int) := by rw [IntKind.wrap_i64]; omega
        have m0 : IntKind.u32.wrap (N0 : Int) = (N0 : Int) := by rw [wrap_u32]; omega
        have m1 : IntKind.u32.wrap (N1 : Int) = (N1 : Int) := by rw [wrap_u32]; omega
        have m2 : IntKind.u32.wrap (N2 : Int) = (N2 : Int) := by rw [wrap_u32]; omega
        have m3 : IntKind.u32.wrap (N3 : Int) = (N3 : Int) := by rw [wrap_u32]; omega
        have p0 : IntKind.u32.wrap ((N0 : Int) * 16777216) = (P0 : Int) := by rw [wrap_u32]; omega
        have p1 : IntKind.u32.wrap ((N1 : Int) * 65536) = (P1 : Int) := by rw [wrap_u32]; omega
        have p2 : IntKind.u32.wrap ((N2 : Int) * 256) = (P2 : Int) := by rw [wrap_u32]; omega
        have s1 : IntKind.u32.wrap ((P0 : Int) + (P1 : Int)) = (S1 : Int) := by rw [wrap_u32]; omega
        have s2 : IntKind.u32.wrap ((S1 : Int) + (P2 : Int)) = (S2 : Int) := by rw [wrap_u32]; omega
        have s3 : IntKind.u32.wrap ((S2 : Int) + (N3 : Int)) = (NW : Int) := by rw [wrap_u32]; omega
        have l0 : (q0 : Int) < 64 := by omega
        have l1 : (q1 : Int) < 64 := by omega
        have l2 : (q2 : Int) < 64 := by omega
        have l3 : (q3 : Int) < 64 := by omega
        rw [hq0] at e0 e1 e2 e3
        rw [hq1] at e1
        rw [hq2] at e2
        rw [hq3] at e3
        have HNW := Lib.hid hNW
        have HIX : Hid (4 * t = q0) := Lib.hid hq0
        clear hcl hw hx0 hx1 hx2 hx3 hN0 hN1 hN2 hN3 hP0 hP1 hP2 hS1 hS2 hNW hq0 hq1 hq2 hq3 g0 g1 g2 g3
        go_upto_region 6 with fail
        have hdq := (HR.out.1).drew
        have hS0 : Below w.heap.size w wr.drew := below_drew' HR.out.2
        obtain ⟨wq, hwq⟩ : ∃ z, wr.drew = z := ⟨_, rfl⟩
        refine wp_region_held_drew (S := fun y => Below w.heap.size w y) (by kernel_rfl) hS0 (fun hHeld => ?_)
        rw [hwq] at hHeld hS0 hdq ⊢
        have HS := Lib.hid hS0
        have HO := Lib.hid hdq
        have HOq := HO
        clear hwq hS0 hdq
        refine wpAnyH_take (i := 0) (oi := { dst := some 24, op := Op.move (Operand.tmp 7), type := 39, pos := "ref.go:119", after := #[], guard := none }) (v := .slice A t d) rfl (by kernel_rfl) (by kernel_rfl) (by kernel_rfl) (fun _ _ _ h => h) (Or.inl ⟨by rfl, ?hy11_0⟩) (by assumption) ?rest11_0
        case hy11_0 => (intro w hSw; (try dsimp only at hSw); go_simp; try with_reducible rfl)
        try simp only [Act.put, List.setIfInBounds_toArray, List.set_cons_zero, List.set_cons_succ]
        refine wpAnyH_take (i := 1) (oi := { dst := some 25, op := Op.move (Operand.tmp 2), type := 22, pos := "ref.go:119", after := #[], guard := none }) (v := .slice (some ⟨b2, o2, none⟩) 64 c2) rfl (by kernel_rfl) (by kernel_rfl) (by kernel_rfl) (fun _ _ _ h => h) (Or.inl ⟨by rfl, ?hy11_1⟩) (by assumption) ?rest11_1
        case hy11_1 => (intro w hSw; (try dsimp only at hSw); go_simp; try with_reducible rfl)
        try simp only [Act.put, List.setIfInBounds_toArray, List.set_cons_zero, List.set_cons_succ]
        refine wpAnyH_take (i := 2) (oi := { dst := some 26, op := Op.move (Operand.tmp 8), type := 3, pos := "ref.go:119", after := #[], guard := none }) (v := .int .i64 (t : Int)) rfl (by kernel_rfl) (by kernel_rfl) (by kernel_rfl) (fun _ _ _ h => h) (Or.inl ⟨by rfl, ?hy11_2⟩) (by assumption) ?rest11_2
        case hy11_2 => (intro w hSw; (try dsimp only at hSw); go_simp; try with_reducible rfl)
        try simp only [Act.put, List.setIfInBounds_toArray, List.set_cons_zero, List.set_cons_succ]
        refine wpAnyH_take (i := 3) (oi := { dst := some 27, op := Op.binOp BinOp.mul 3 (Operand.const (Value.int IntKind.i64 4)) (Operand.tmp 26) 3, type := 3, pos := "ref.go:119", after := #[{ on := 2, ground := Ground.data }], guard := none }) (v := .int .i64 (q0 : Int)) rfl (by kernel_rfl) (by kernel_rfl) (by kernel_rfl) (fun _ _ _ h => h) (Or.inl ⟨by rfl, ?hy11_3⟩) (by assumption) ?rest11_3
        case hy11_3 => (intro w hSw; (try dsimp only at hSw); go_simp; try with_reducible rfl)
        try simp only [Act.put, List.setIfInBounds_toArray, List.set_cons_zero, List.set_cons_succ]
        refine wpAnyH_take (i := 4) (oi := { dst := some 28, op := Op.indexAddr 22 (Operand.tmp 25) (Operand.tmp 27), type := 0, pos := "ref.go:119", after := #[{ on := 1, ground := Ground.data }, { on := 3, ground := Ground.data }], guard := none }) (v := .pointer (some ⟨b2, o2 + q0, none⟩)) rfl (by kernel_rfl) (by kernel_rfl) (by kernel_rfl) (fun _ _ _ h => h) (Or.inl ⟨by rfl, ?hy11_4⟩) (by assumption) ?rest11_4
        case hy11_4 => (intro w hSw; (try dsimp only at hSw); go_simp; try with_reducible rfl)
        try simp only [Act.put, List.setIfInBounds_toArray, List.set_cons_zero, List.set_cons_succ]
        refine wpAnyH_take (i := 5) (oi := { dst := some 29, op := Op.load 5 (Operand.tmp 28), type := 5, pos := "ref.go:119", after := #[{ on := 4, ground := Ground.data }], guard := none }) (v := .int .u8 (N0 : Int)) rfl (by kernel_rfl) (by kernel_rfl) (by kernel_rfl) (fun _ _ _ h => h) (Or.inl ⟨by rfl, ?hy11_5⟩) (by assumption) ?rest11_5
        case hy11_5 => (intro w1 hSw; have hq := (Below.cell hSw (p := ⟨b2, o2 + q0, none⟩) hb2w).trans e0; go_simp; try with_reducible rfl)
        try simp only [Act.put, List.setIfInBounds_toArray, List.set_cons_zero, List.set_cons_succ]
        refine wpAnyH_take (i := 6) (oi := { dst := some 30, op := Op.convert 5 41 (Operand.tmp 29), type := 41, pos := "ref.go:119", after := #[{ on := 5, ground := Ground.data }], guard := none }) (v := .int .u32 (N0 : Int)) rfl (by kernel_rfl) (by kernel_rfl) (by kernel_rfl) (fun _ _ _ h => h) (Or.inl ⟨by rfl, ?hy11_6⟩) (by assumption) ?rest11_6
        case hy11_6 => (intro w hSw; (try dsimp only at hSw); go_simp; try with_reducible rfl)
        try simp only [Act.put, List.setIfInBounds_toArray, List.set_cons_zero, List.set_cons_succ]
        refine wpAnyH_take (i := 7) (oi := { dst := some 31, op := Op.binOp BinOp.mul 41 (Operand.tmp 30) (Operand.const (Value.int IntKind.u32 16777216)) 41, type := 41, pos := "ref.go:119", after := #[{ on := 6, ground := Ground.data }], guard := none }) (v := .int .u32 (P0 : Int)) rfl (by kernel_rfl) (by kernel_rfl) (by kernel_rfl) (fun _ _ _ h => h) (Or.inl ⟨by rfl, ?hy11_7⟩) (by assumption) ?rest11_7
        case hy11_7 => (intro w hSw; (try dsimp only at hSw); go_simp; try with_reducible rfl)
        try simp only [Act.put, List.setIfInBounds_toArray, List.set_cons_zero, List.set_cons_succ]
        refine wpAnyH_take (i := 8) (oi := { dst := some 32, op := Op.move (Operand.tmp 2), type := 22, pos := "ref.go:119", after := #[], guard := none }) (v := .slice (some ⟨b2, o2, none⟩) 64 c2) rfl (by kernel_rfl) (by kernel_rfl) (by kernel_rfl) (fun _ _ _ h => h) (Or.inl ⟨by rfl, ?hy11_8⟩) (by assumption) ?rest11_8
        case hy11_8 => (intro w hSw; (try dsimp only at hSw); go_simp; try with_reducible rfl)
        try simp only [Act.put, List.setIfInBounds_toArray, List.set_cons_zero, List.set_cons_succ]
        refine wpAnyH_take (i := 9) (oi := { dst := some 33, op := Op.move (Operand.tmp 8), type := 3, pos := "ref.go:119", after := #[], guard := none }) (v := .int .i64 (t : Int)) rfl (by kernel_rfl) (by kernel_rfl) (by kernel_rfl) (fun _ _ _ h => h) (Or.inl ⟨by rfl, ?hy11_9⟩) (by assumption) ?rest11_9
        case hy11_9 => (intro w hSw; (try dsimp only at hSw); go_simp; try with_reducible rfl)
        try simp only [Act.put, List.setIfInBounds_toArray, List.set_cons_zero, List.set_cons_succ]
        refine wpAnyH_take (i := 10) (oi := { dst := some 34, op := Op.binOp BinOp.mul 3 (Operand.const (Value.int IntKind.i64 4)) (Operand.tmp 33) 3, type := 3, pos := "ref.go:119", after := #[{ on := 9, ground := Ground.data }], guard := none }) (v := .int .i64 (q0 : Int)) rfl (by kernel_rfl) (by kernel_rfl) (by kernel_rfl) (fun _ _ _ h => h) (Or.inl ⟨by rfl, ?hy11_10⟩) (by assumption) ?rest11_10
        case hy11_10 => (intro w hSw; (try dsimp only at hSw); go_simp; try with_reducible rfl)
        try simp only [Act.put, List.setIfInBounds_toArray, List.set_cons_zero, List.set_cons_succ]
        refine wpAnyH_take (i := 11) (oi := { dst := some 35, op := Op.binOp BinOp.add 3 (Operand.tmp 34) (Operand.const (Value.int IntKind.i64 1)) 3, type := 3, pos := "ref.go:119", after := #[{ on := 10, ground := Ground.data }], guard := none }) (v := .int .i64 (q1 : Int)) rfl (by kernel_rfl) (by kernel_rfl) (by kernel_rfl) (fun _ _ _ h => h) (Or.inl ⟨by rfl, ?hy11_11⟩) (by assumption) ?rest11_11
        case hy11_11 => (intro w hSw; (try dsimp only at hSw); go_simp; try with_reducible rfl)
        try simp only [Act.put, List.setIfInBounds_toArray, List.set_cons_zero, List.set_cons_succ]
        refine wpAnyH_take (i := 12) (oi := { dst := some 36, op := Op.indexAddr 22 (Operand.tmp 32) (Operand.tmp 35), type := 0, pos := "ref.go:119", after := #[{ on := 8, ground := Ground.data }, { on := 11, ground := Ground.data }], guard := none }) (v := .pointer (some ⟨b2, o2 + q1, none⟩)) rfl (by kernel_rfl) (by kernel_rfl) (by kernel_rfl) (fun _ _ _ h => h) (Or.inl ⟨by rfl, ?hy11_12⟩) (by assumption) ?rest11_12
        case hy11_12 => (intro w hSw; (try dsimp only at hSw); go_simp; try with_reducible rfl)
        try simp only [Act.put, List.setIfInBounds_toArray, List.set_cons_zero, List.set_cons_succ]
        refine wpAnyH_take (i := 13) (oi := { dst := some 37, op := Op.load 5 (Operand.tmp 36), type := 5, pos := "ref.go:119", after := #[{ on := 12, ground := Ground.data }], guard := none }) (v := .int .u8 (N1 : Int)) rfl (by kernel_rfl) (by kernel_rfl) (by kernel_rfl) (fun _ _ _ h => h) (Or.inl ⟨by rfl, ?hy11_13⟩) (by assumption) ?rest11_13
        case hy11_13 => (intro w1 hSw; have hq := (Below.cell hSw (p := ⟨b2, o2 + q1, none⟩) hb2w).trans e1; go_simp; try with_reducible rfl)
        try simp only [Act.put, List.setIfInBounds_toArray, List.set_cons_zero, List.set_cons_succ]
        refine wpAnyH_take (i := 14) (oi := { dst := some 38, op := Op.convert 5 41 (Operand.tmp 37), type := 41, pos := "ref.go:119", after := #[{ on := 13, ground := Ground.data }], guard := none }) (v := .int .u32 (N1 : Int)) rfl (by kernel_rfl) (by kernel_rfl) (by kernel_rfl) (fun _ _ _ h => h) (Or.inl ⟨by rfl, ?hy11_14⟩) (by assumption) ?rest11_14
        case hy11_14 => (intro w hSw; (try dsimp only at hSw); go_simp; try with_reducible rfl)
        try simp only [Act.put, List.setIfInBounds_toArray, List.set_cons_zero, List.set_cons_succ]
        refine wpAnyH_take (i := 15) (oi := { dst := some 39, op := Op.binOp BinOp.mul 41 (Operand.tmp 38) (Operand.const (Value.int IntKind.u32 65536)) 41, type := 41, pos := "ref.go:119", after := #[{ on := 14, ground := Ground.data }], guard := none }) (v := .int .u32 (P1 : Int)) rfl (by kernel_rfl) (by kernel_rfl) (by kernel_rfl) (fun _ _ _ h => h) (Or.inl ⟨by rfl, ?hy11_15⟩) (by assumption) ?rest11_15
        case hy11_15 => (intro w hSw; (try dsimp only at hSw); go_simp; try with_reducible rfl)
        try simp only [Act.put, List.setIfInBounds_toArray, List.set_cons_zero, List.set_cons_succ]
        refine wpAnyH_take (i := 16) (oi := { dst := some 40, op := Op.binOp BinOp.add 41 (Operand.tmp 31) (Operand.tmp 39) 41, type := 41, pos := "ref.go:119", after := #[{ on := 7, ground := Ground.data }, { on := 15, ground := Ground.data }], guard := none }) (v := .int .u32 (S1 : Int)) rfl (by kernel_rfl) (by kernel_rfl) (by kernel_rfl) (fun _ _ _ h => h) (Or.inl ⟨by rfl, ?hy11_16⟩) (by assumption) ?rest11_16
        case hy11_16 => (intro w hSw; (try dsimp only at hSw); go_simp; try with_reducible rfl)
        try simp only [Act.put, List.setIfInBounds_toArray, List.set_cons_zero, List.set_cons_succ]
        refine wpAnyH_take (i := 17) (oi := { dst := some 41, op := Op.move (Operand.tmp 2), type := 22, pos := "ref.go:119", after := #[], guard := none }) (v := .slice (some ⟨b2, o2, none⟩) 64 c2) rfl (by kernel_rfl) (by kernel_rfl) (by kernel_rfl) (fun _ _ _ h => h) (Or.inl ⟨by rfl, ?hy11_17⟩) (by assumption) ?rest11_17
        case hy11_17 => (intro w hSw; (try dsimp only at hSw); go_simp; try with_reducible rfl)
        try simp only [Act.put, List.setIfInBounds_toArray, List.set_cons_zero, List.set_cons_succ]
        refine wpAnyH_take (i := 18) (oi := { dst := some 42, op := Op.move (Operand.tmp 8), type := 3, pos := "ref.go:119", after := #[], guard := none }) (v := .int .i64 (t : Int)) rfl (by kernel_rfl) (by kernel_rfl) (by kernel_rfl) (fun _ _ _ h => h) (Or.inl ⟨by rfl, ?hy11_18⟩) (by assumption) ?rest11_18
        case hy11_18 => (intro w hSw; (try dsimp only at hSw); go_simp; try with_reducible rfl)
        try simp only [Act.put, List.setIfInBounds_toArray, List.set_cons_zero, List.set_cons_succ]
        refine wpAnyH_take (i := 19) (oi := { dst := some 43, op := Op.binOp BinOp.mul 3 (Operand.const (Value.int IntKind.i64 4)) (Operand.tmp 42) 3, type := 3, pos := "ref.go:119", after := #[{ on := 18, ground := Ground.data }], guard := none }) (v := .int .i64 (q0 : Int)) rfl (by kernel_rfl) (by kernel_rfl) (by kernel_rfl) (fun _ _ _ h => h) (Or.inl ⟨by rfl, ?hy11_19⟩) (by assumption) ?rest11_19
        case hy11_19 => (intro w hSw; (try dsimp only at hSw); go_simp; try with_reducible rfl)
        try simp only [Act.put, List.setIfInBounds_toArray, List.set_cons_zero, List.set_cons_succ]
        refine wpAnyH_take (i := 20) (oi := { dst := some 44, op := Op.binOp BinOp.add 3 (Operand.tmp 43) (Operand.const (Value.int IntKind.i64 2)) 3, type := 3, pos := "ref.go:119", after := #[{ on := 19, ground := Ground.data }], guard := none }) (v := .int .i64 (q2 : Int)) rfl (by kernel_rfl) (by kernel_rfl) (by kernel_rfl) (fun _ _ _ h => h) (Or.inl ⟨by rfl, ?hy11_20⟩) (by assumption) ?rest11_20
        case hy11_20 => (intro w hSw; (try dsimp only at hSw); go_simp; try with_reducible rfl)
        try simp only [Act.put, List.setIfInBounds_toArray, List.set_cons_zero, List.set_cons_succ]
        refine wpAnyH_take (i := 21) (oi := { dst := some 45, op := Op.indexAddr 22 (Operand.tmp 41) (Operand.tmp 44), type := 0, pos := "ref.go:119", after := #[{ on := 17, ground := Ground.data }, { on := 20, ground := Ground.data }], guard := none }) (v := .pointer (some ⟨b2, o2 + q2, none⟩)) rfl (by kernel_rfl) (by kernel_rfl) (by kernel_rfl) (fun _ _ _ h => h) (Or.inl ⟨by rfl, ?hy11_21⟩) (by assumption) ?rest11_21
        case hy11_21 => (intro w hSw; (try dsimp only at hSw); go_simp; try with_reducible rfl)
        try simp only [Act.put, List.setIfInBounds_toArray, List.set_cons_zero, List.set_cons_succ]
        refine wpAnyH_take (i := 22) (oi := { dst := some 46, op := Op.load 5 (Operand.tmp 45), type := 5, pos := "ref.go:119", after := #[{ on := 21, ground := Ground.data }], guard := none }) (v := .int .u8 (N2 : Int)) rfl (by kernel_rfl) (by kernel_rfl) (by kernel_rfl) (fun _ _ _ h => h) (Or.inl ⟨by rfl, ?hy11_22⟩) (by assumption) ?rest11_22
        case hy11_22 => (intro w1 hSw; have hq := (Below.cell hSw (p := ⟨b2, o2 + q2, none⟩) hb2w).trans e2; go_simp; try with_reducible rfl)
        try simp only [Act.put, List.setIfInBounds_toArray, List.set_cons_zero, List.set_cons_succ]
        refine wpAnyH_take (i := 23) (oi := { dst := some 47, op := Op.convert 5 41 (Operand.tmp 46), type := 41, pos := "ref.go:119", after := #[{ on := 22, ground := Ground.data }], guard := none }) (v := .int .u32 (N2 : Int)) rfl (by kernel_rfl) (by kernel_rfl) (by kernel_rfl) (fun _ _ _ h => h) (Or.inl ⟨by rfl, ?hy11_23⟩) (by assumption) ?rest11_23
        case hy11_23 => (intro w hSw; (try dsimp only at hSw); go_simp; try with_reducible rfl)
        try simp only [Act.put, List.setIfInBounds_toArray, List.set_cons_zero, List.set_cons_succ]
        refine wpAnyH_take (i := 24) (oi := { dst := some 48, op := Op.binOp BinOp.mul 41 (Operand.tmp 47) (Operand.const (Value.int IntKind.u32 256)) 41, type := 41, pos := "ref.go:119", after := #[{ on := 23, ground := Ground.data }], guard := none }) (v := .int .u32 (P2 : Int)) rfl (by kernel_rfl) (by kernel_rfl) (by kernel_rfl) (fun _ _ _ h => h) (Or.inl ⟨by rfl, ?hy11_24⟩) (by assumption) ?rest11_24
        case hy11_24 => (intro w hSw; (try dsimp only at hSw); go_simp; try with_reducible rfl)
        try simp only [Act.put, List.setIfInBounds_toArray, List.set_cons_zero, List.set_cons_succ]
        refine wpAnyH_take (i := 25) (oi := { dst := some 49, op := Op.binOp BinOp.add 41 (Operand.tmp 40) (Operand.tmp 48) 41, type := 41, pos := "ref.go:119", after := #[{ on := 16, ground := Ground.data }, { on := 24, ground := Ground.data }], guard := none }) (v := .int .u32 (S2 : Int)) rfl (by kernel_rfl) (by kernel_rfl) (by kernel_rfl) (fun _ _ _ h => h) (Or.inl ⟨by rfl, ?hy11_25⟩) (by assumption) ?rest11_25
        case hy11_25 => (intro w hSw; (try dsimp only at hSw); go_simp; try with_reducible rfl)
        try simp only [Act.put, List.setIfInBounds_toArray, List.set_cons_zero, List.set_cons_succ]
        refine wpAnyH_take (i := 26) (oi := { dst := some 50, op := Op.move (Operand.tmp 2), type := 22, pos := "ref.go:119", after := #[], guard := none }) (v := .slice (some ⟨b2, o2, none⟩) 64 c2) rfl (by kernel_rfl) (by kernel_rfl) (by kernel_rfl) (fun _ _ _ h => h) (Or.inl ⟨by rfl, ?hy11_26⟩) (by assumption) ?rest11_26
        case hy11_26 => (intro w hSw; (try dsimp only at hSw); go_simp; try with_reducible rfl)
        try simp only [Act.put, List.setIfInBounds_toArray, List.set_cons_zero, List.set_cons_succ]
        refine wpAnyH_take (i := 27) (oi := { dst := some 51, op := Op.move (Operand.tmp 8), type := 3, pos := "ref.go:119", after := #[], guard := none }) (v := .int .i64 (t : Int)) rfl (by kernel_rfl) (by kernel_rfl) (by kernel_rfl) (fun _ _ _ h => h) (Or.inl ⟨by rfl, ?hy11_27⟩) (by assumption) ?rest11_27
        case hy11_27 => (intro w hSw; (try dsimp only at hSw); go_simp; try with_reducible rfl)
        try simp only [Act.put, List.setIfInBounds_toArray, List.set_cons_zero, List.set_cons_succ]
        refine wpAnyH_take (i := 28) (oi := { dst := some 52, op := Op.binOp BinOp.mul 3 (Operand.const (Value.int IntKind.i64 4)) (Operand.tmp 51) 3, type := 3, pos := "ref.go:119", after := #[{ on := 27, ground := Ground.data }], guard := none }) (v := .int .i64 (q0 : Int)) rfl (by kernel_rfl) (by kernel_rfl) (by kernel_rfl) (fun _ _ _ h => h) (Or.inl ⟨by rfl, ?hy11_28⟩) (by assumption) ?rest11_28
        case hy11_28 => (intro w hSw; (try dsimp only at hSw); go_simp; try with_reducible rfl)
        try simp only [Act.put, List.setIfInBounds_toArray, List.set_cons_zero, List.set_cons_succ]
        refine wpAnyH_take (i := 29) (oi := { dst := some 53, op := Op.binOp BinOp.add 3 (Operand.tmp 52) (Operand.const (Value.int IntKind.i64 3)) 3, type := 3, pos := "ref.go:119", after := #[{ on := 28, ground := Ground.data }], guard := none }) (v := .int .i64 (q3 : Int)) rfl (by kernel_rfl) (by kernel_rfl) (by kernel_rfl) (fun _ _ _ h => h) (Or.inl ⟨by rfl, ?hy11_29⟩) (by assumption) ?rest11_29
        case hy11_29 => (intro w hSw; (try dsimp only at hSw); go_simp; try with_reducible rfl)
        try simp only [Act.put, List.setIfInBounds_toArray, List.set_cons_zero, List.set_cons_succ]
        refine wpAnyH_take (i := 30) (oi := { dst := some 54, op := Op.indexAddr 22 (Operand.tmp 50) (Operand.tmp 53), type := 0, pos := "ref.go:119", after := #[{ on := 26, ground := Ground.data }, { on := 29, ground := Ground.data }], guard := none }) (v := .pointer (some ⟨b2, o2 + q3, none⟩)) rfl (by kernel_rfl) (by kernel_rfl) (by kernel_rfl) (fun _ _ _ h => h) (Or.inl ⟨by rfl, ?hy11_30⟩) (by assumption) ?rest11_30
        case hy11_30 => (intro w hSw; (try dsimp only at hSw); go_simp; try with_reducible rfl)
        try simp only [Act.put, List.setIfInBounds_toArray, List.set_cons_zero, List.set_cons_succ]
        refine wpAnyH_take (i := 31) (oi := { dst := some 55, op := Op.load 5 (Operand.tmp 54), type := 5, pos := "ref.go:119", after := #[{ on := 30, ground := Ground.data }], guard := none }) (v := .int .u8 (N3 : Int)) rfl (by kernel_rfl) (by kernel_rfl) (by kernel_rfl) (fun _ _ _ h => h) (Or.inl ⟨by rfl, ?hy11_31⟩) (by assumption) ?rest11_31
        case hy11_31 => (intro w1 hSw; have hq := (Below.cell hSw (p := ⟨b2, o2 + q3, none⟩) hb2w).trans e3; go_simp; try with_reducible rfl)
        try simp only [Act.put, List.setIfInBounds_toArray, List.set_cons_zero, List.set_cons_succ]
        refine wpAnyH_take (i := 32) (oi := { dst := some 56, op := Op.convert 5 41 (Operand.tmp 55), type := 41, pos := "ref.go:119", after := #[{ on := 31, ground := Ground.data }], guard := none }) (v := .int .u32 (N3 : Int)) rfl (by kernel_rfl) (by kernel_rfl) (by kernel_rfl) (fun _ _ _ h => h) (Or.inl ⟨by rfl, ?hy11_32⟩) (by assumption) ?rest11_32
        case hy11_32 => (intro w hSw; (try dsimp only at hSw); go_simp; try with_reducible rfl)
        try simp only [Act.put, List.setIfInBounds_toArray, List.set_cons_zero, List.set_cons_succ]
        refine wpAnyH_take (i := 33) (oi := { dst := some 57, op := Op.binOp BinOp.add 41 (Operand.tmp 49) (Operand.tmp 56) 41, type := 41, pos := "ref.go:119", after := #[{ on := 25, ground := Ground.data }, { on := 32, ground := Ground.data }], guard := none }) (v := .int .u32 (NW : Int)) rfl (by kernel_rfl) (by kernel_rfl) (by kernel_rfl) (fun _ _ _ h => h) (Or.inl ⟨by rfl, ?hy11_33⟩) (by assumption) ?rest11_33
        case hy11_33 => (intro w hSw; (try dsimp only at hSw); go_simp; try with_reducible rfl)
        try simp only [Act.put, List.setIfInBounds_toArray, List.set_cons_zero, List.set_cons_succ]
        refine wpAnyH_ready (rs := [34]) (by kernel_rfl) (by simp) ?_
        refine AllReadyH.cons (o := { dst := some 58, op := Op.buildSlice 39 1 #[(0, Operand.tmp 57)], type := 39, pos := "ref.go:119", after := #[{ on := 33, ground := Ground.data }], guard := none }) rfl (fun K hK => ?_) AllReadyH.nil
        refine (if_pos (by rfl)).mpr ?_
        unfold Oper.wp
        go_simp
        have hV0 := (Below.alloc HS.out HS.out.size (.cells #[.int .u32 (NW : Int)] 41) : Below w.heap.size w _)
        refine hK.out _ _ hV0 (fun _ => ?_)
        clear hK K
        try simp only [Act.put, List.setIfInBounds_toArray, List.set_cons_zero, List.set_cons_succ]
        refine wpAnyH_ready (rs := [35]) (by kernel_rfl) (by simp) ?_
        refine AllReadyH.cons (o := { dst := some 59, op := Op.call { callee := Callee.builtin Builtin.append, args := #[Operand.tmp 24, Operand.tmp 58], argTypes := #[39, 39] }, type := 39, pos := "ref.go:119", after := #[{ on := 0, ground := Ground.data }, { on := 34, ground := Ground.data }], guard := none }) rfl (fun K hK => ?_) AllReadyH.nil
        refine step_app u32tyB rfl (.tmp 24) (.tmp 58) rfl rfl rfl ((HO.out).alloc _) (Rd.one _ _ _) (one1 rfl) (by omega) (by omega) (by simp; have := (HS.out).size; omega) ?_
        intro A3 n3 d3 w3 ho3 hn3 hb3 hg3
        have hb33 := hV0.trans hb3
        refine hK.out _ _ hb33 (fun _ => ?_)
        clear hK K
        try simp only [Act.put, List.setIfInBounds_toArray, List.set_cons_zero, List.set_cons_succ]
        refine wpAnyH_take (i := 36) (oi := { dst := some 7, op := Op.assign (Operand.tmp 59), type := 39, pos := "ref.go:119", after := #[{ on := 35, ground := Ground.data }, { on := 35, ground := Ground.chain }, { on := 0, ground := Ground.phase }, { on := 1, ground := Ground.phase }, { on := 2, ground := Ground.phase }, { on := 3, ground := Ground.phase }, { on := 4, ground := Ground.phase }, { on := 5, ground := Ground.phase }, { on := 6, ground := Ground.phase }, { on := 7, ground := Ground.phase }, { on := 8, ground := Ground.phase }, { on := 9, ground := Ground.phase }, { on := 10, ground := Ground.phase }, { on := 11, ground := Ground.phase }, { on := 12, ground := Ground.phase }, { on := 13, ground := Ground.phase }, { on := 14, ground := Ground.phase }, { on := 15, ground := Ground.phase }, { on := 16, ground := Ground.phase }, { on := 17, ground := Ground.phase }, { on := 18, ground := Ground.phase }, { on := 19, ground := Ground.phase }, { on := 20, ground := Ground.phase }, { on := 21, ground := Ground.phase }, { on := 22, ground := Ground.phase }, { on := 23, ground := Ground.phase }, { on := 24, ground := Ground.phase }, { on := 25, ground := Ground.phase }, { on := 26, ground := Ground.phase }, { on := 27, ground := Ground.phase }, { on := 28, ground := Ground.phase }, { on := 29, ground := Ground.phase }, { on := 30, ground := Ground.phase }, { on := 31, ground := Ground.phase }, { on := 32, ground := Ground.phase }, { on := 33, ground := Ground.phase }, { on := 34, ground := Ground.phase }, { on := 35, ground := Ground.phase }], guard := none }) (v := .slice A3 n3 d3) rfl (by kernel_rfl) (by kernel_rfl) (by kernel_rfl) (fun _ _ _ h => h) (Or.inl ⟨by rfl, ?hy11_36⟩) (by assumption) ?rest11_36
        case hy11_36 => (intro w hSw; (try dsimp only at hSw); go_simp; try with_reducible rfl)
        try simp only [Act.put, List.setIfInBounds_toArray, List.set_cons_zero, List.set_cons_succ]
        refine wpAnyH_done (by kernel_rfl) ?_ _
        clear f0 f1 f2 f3 m0 m1 m2 m3 p0 p1 p2 s1 s2 s3 e0 e1 e2 e3
        go_wp2_with fail
        have hn3t : n3 = t + 1 := by have := ho3.len; rw [List.length_append, wvs_len, wordsN_len] at this; exact this.symm
        subst hn3t
        have hwn : wvs (wordsN L (t + 1)) = wvs (wordsN L t) ++ [.int .u32 (NW : Int)] := by
          rw [show wordsN L (t + 1) = wordsN L t ++ [word L t] by rw [wordsN, if_pos h16], ← HNW.out]
          simp [wvs, wv]
        rw [← hwn] at ho3
        exact ⟨⟨t + 1, A3, d3, rfl, by go_num, by omega, Lib.hid ⟨ho3, hb33⟩⟩, by simp [intOf]; omega⟩
      · obtain ⟨gA, rfl, hgA1, hgA2⟩ := HR.out.1.at0 (by omega)
        have hcells : ∀ j, j < t → wr.cell? ⟨gA, j, none⟩ = (wvs (wordsN L t))[j]? := fun j hj => by
          obtain ⟨b, off, e, _, hc⟩ := HR.out.1.rd.at_ hj
          injection e with e
          injection e with e1 e2
          subst e1
          subst e2
          rw [Nat.zero_add] at hc
          exact hc
        have HC := Lib.hid hcells
        have k16n : ¬ (t : Int) < 16 := by omega
        have hat : ∀ k, k < t → (wvs (wordsN L t))[k]? = some (wv ((wordsN L t).getD k 0)) := fun k hk => wvs_at _ k (by rw [wordsN_len]; exact hk)
        have hmade : made (wordsN L t) t = (wordsN L t).getD (t - 16) 0 + far ((wordsN L t).getD (t - 15) 0) + (wordsN L t).getD (t - 7) 0 + near ((wordsN L t).getD (t - 2) 0) := rfl
        obtain ⟨k16, hk16⟩ : ∃ k, t - 16 = k := ⟨_, rfl⟩
        obtain ⟨k15, hk15⟩ : ∃ k, t - 15 = k := ⟨_, rfl⟩
        obtain ⟨k7, hk7⟩ : ∃ k, t - 7 = k := ⟨_, rfl⟩
        obtain ⟨k2, hk2⟩ : ∃ k, t - 2 = k := ⟨_, rfl⟩
        rw [hk16, hk15, hk7, hk2] at hmade
        have lk16 : k16 < t := by omega
        have lk15 : k15 < t := by omega
        have lk7 : k7 < t := by omega
        have lk2 : k2 < t := by omega
        have e16 := hat k16 lk16
        have e15 := hat k15 lk15
        have e7 := hat k7 lk7
        have e2 := hat k2 lk2
        obtain ⟨x16, hx16⟩ : ∃ x, (wordsN L t).getD k16 0 = x := ⟨_, rfl⟩
        obtain ⟨x15, hx15⟩ : ∃ x, (wordsN L t).getD k15 0 = x := ⟨_, rfl⟩
        obtain ⟨x7, hx7⟩ : ∃ x, (wordsN L t).getD k7 0 = x := ⟨_, rfl⟩
        obtain ⟨x2, hx2⟩ : ∃ x, (wordsN L t).getD k2 0 = x := ⟨_, rfl⟩
        rw [hx16] at hmade e16
        rw [hx15] at hmade e15
        rw [hx7] at hmade e7
        rw [hx2] at hmade e2
        have HMADE := Lib.hid hmade
        unfold wv at e16 e15 e7 e2
        obtain ⟨N16, hN16⟩ : ∃ z, x16.toNat = z := ⟨_, rfl⟩
        obtain ⟨N15, hN15⟩ : ∃ z, x15.toNat = z := ⟨_, rfl⟩
        obtain ⟨N7, hN7⟩ : ∃ z, x7.toNat = z := ⟨_, rfl⟩
        obtain ⟨N2, hN2⟩ : ∃ z, x2.toNat = z := ⟨_, rfl⟩
        rw [hN16] at e16
        rw [hN15] at e15
        rw [hN7] at e7
        rw [hN2] at e2
        have i16 : IntKind.i64.wrap ((t : Int) - 16) = (k16 : Int) := by rw [IntKind.wrap_i64]; omega
        have i15 : IntKind.i64.wrap ((t : Int) - 15) = (k15 : Int) := by rw [IntKind.wrap_i64]; omega
        have i7 : IntKind.i64.wrap ((t : Int) - 7) = (k7 : Int) := by rw [IntKind.wrap_i64]; omega
        have i2 : IntKind.i64.wrap ((t : Int) - 2) = (k2 : Int) := by rw [IntKind.wrap_i64]; omega
        have m16 : (k16 : Int) < (t : Int) := by omega
        have m15 : (k15 : Int) < (t : Int) := by omega
        have m7 : (k7 : Int) < (t : Int) := by omega
        have m2 : (k2 : Int) < (t : Int) := by omega
        clear hat hmade hx16 hx15 hx7 hx2 hk16 hk15 hk7 hk2 hcells
        go_upto_region 7 with fail
        have hdq := (HR.out.1).drew
        have hS0 : (Below w.heap.size w wr.drew ∧ ∀ j, j < t → World.cell? wr.drew ⟨gA, j, none⟩ = (wvs (wordsN L t))[j]?) := ⟨below_drew' HR.out.2, fun j hj => HC.out j hj⟩
        obtain ⟨wq, hwq⟩ : ∃ z, wr.drew = z := ⟨_, rfl⟩
        refine wp_region_held_drew (S := fun y => (Below w.heap.size w y ∧ ∀ j, j < t → World.cell? y ⟨gA, j, none⟩ = (wvs (wordsN L t))[j]?)) (by kernel_rfl) hS0 (fun hHeld => ?_)
        rw [hwq] at hHeld hS0 hdq ⊢
        have HS := Lib.hid hS0
        have HO := Lib.hid hdq
        have HOq := HO
        clear hwq hS0 hdq
        refine wpAnyH_take (i := 0) (oi := { dst := some 60, op := Op.move (Operand.tmp 7), type := 39, pos := "ref.go:122", after := #[], guard := none }) (v := .slice (some ⟨gA, 0, none⟩) t d) rfl (by kernel_rfl) (by kernel_rfl) (by kernel_rfl) (fun _ _ _ h => h) (Or.inl ⟨by rfl, ?hy22_0⟩) (by assumption) ?rest22_0
        case hy22_0 => (intro w hSw; (try dsimp only at hSw); go_simp; try with_reducible rfl)
        try simp only [Act.put, List.setIfInBounds_toArray, List.set_cons_zero, List.set_cons_succ]
        refine wpAnyH_take (i := 1) (oi := { dst := some 61, op := Op.move (Operand.tmp 8), type := 3, pos := "ref.go:122", after := #[], guard := none }) (v := .int .i64 (t : Int)) rfl (by kernel_rfl) (by kernel_rfl) (by kernel_rfl) (fun _ _ _ h => h) (Or.inl ⟨by rfl, ?hy22_1⟩) (by assumption) ?rest22_1
        case hy22_1 => (intro w hSw; (try dsimp only at hSw); go_simp; try with_reducible rfl)
        try simp only [Act.put, List.setIfInBounds_toArray, List.set_cons_zero, List.set_cons_succ]
        refine wpAnyH_take (i := 2) (oi := { dst := some 62, op := Op.binOp BinOp.sub 3 (Operand.tmp 61) (Operand.const (Value.int IntKind.i64 15)) 3, type := 3, pos := "ref.go:122", after := #[{ on := 1, ground := Ground.data }], guard := none }) (v := .int .i64 (k15 : Int)) rfl (by kernel_rfl) (by kernel_rfl) (by kernel_rfl) (fun _ _ _ h => h) (Or.inl ⟨by rfl, ?hy22_2⟩) (by assumption) ?rest22_2
        case hy22_2 => (intro w hSw; (try dsimp only at hSw); go_simp; try with_reducible rfl)
        try simp only [Act.put, List.setIfInBounds_toArray, List.set_cons_zero, List.set_cons_succ]
        refine wpAnyH_take (i := 3) (oi := { dst := some 63, op := Op.indexAddr 39 (Operand.tmp 60) (Operand.tmp 62), type := 0, pos := "ref.go:122", after := #[{ on := 0, ground := Ground.data }, { on := 2, ground := Ground.data }], guard := none }) (v := .pointer (some ⟨gA, k15, none⟩)) rfl (by kernel_rfl) (by kernel_rfl) (by kernel_rfl) (fun _ _ _ h => h) (Or.inl ⟨by rfl, ?hy22_3⟩) (by assumption) ?rest22_3
        case hy22_3 => (intro w hSw; (try dsimp only at hSw); go_simp; try with_reducible rfl)
        try simp only [Act.put, List.setIfInBounds_toArray, List.set_cons_zero, List.set_cons_succ]
        refine wpAnyH_take (i := 4) (oi := { dst := some 64, op := Op.load 41 (Operand.tmp 63), type := 41, pos := "ref.go:122", after := #[{ on := 3, ground := Ground.data }], guard := none }) (v := .int .u32 (N15 : Int)) rfl (by kernel_rfl) (by kernel_rfl) (by kernel_rfl) (fun _ _ _ h => h) (Or.inl ⟨by rfl, ?hy22_4⟩) (by assumption) ?rest22_4
        case hy22_4 => (intro w1 hSw; have hq := (hSw.2 k15 lk15).trans e15; go_simp; try with_reducible rfl)
        try simp only [Act.put, List.setIfInBounds_toArray, List.set_cons_zero, List.set_cons_succ]
        refine wpAnyH_take (i := 5) (oi := { dst := some 65, op := Op.move (Operand.tmp 7), type := 39, pos := "ref.go:122", after := #[{ on := 10, ground := Ground.gcOnly Departure.lateStores }], guard := none }) (v := .slice (some ⟨gA, 0, none⟩) t d) rfl (by kernel_rfl) (by kernel_rfl) (by kernel_rfl) (fun _ _ _ h => h) (Or.inl ⟨by rfl, ?hy22_5⟩) (by assumption) ?rest22_5
        case hy22_5 => (intro w hSw; (try dsimp only at hSw); go_simp; try with_reducible rfl)
        try simp only [Act.put, List.setIfInBounds_toArray, List.set_cons_zero, List.set_cons_succ]
        refine wpAnyH_take (i := 6) (oi := { dst := some 66, op := Op.move (Operand.tmp 8), type := 3, pos := "ref.go:122", after := #[{ on := 10, ground := Ground.gcOnly Departure.lateStores }], guard := none }) (v := .int .i64 (t : Int)) rfl (by kernel_rfl) (by kernel_rfl) (by kernel_rfl) (fun _ _ _ h => h) (Or.inl ⟨by rfl, ?hy22_6⟩) (by assumption) ?rest22_6
        case hy22_6 => (intro w hSw; (try dsimp only at hSw); go_simp; try with_reducible rfl)
        try simp only [Act.put, List.setIfInBounds_toArray, List.set_cons_zero, List.set_cons_succ]
        refine wpAnyH_take (i := 7) (oi := { dst := some 67, op := Op.binOp BinOp.sub 3 (Operand.tmp 66) (Operand.const (Value.int IntKind.i64 2)) 3, type := 3, pos := "ref.go:122", after := #[{ on := 6, ground := Ground.data }, { on := 10, ground := Ground.gcOnly Departure.lateStores }], guard := none }) (v := .int .i64 (k2 : Int)) rfl (by kernel_rfl) (by kernel_rfl) (by kernel_rfl) (fun _ _ _ h => h) (Or.inl ⟨by rfl, ?hy22_7⟩) (by assumption) ?rest22_7
        case hy22_7 => (intro w hSw; (try dsimp only at hSw); go_simp; try with_reducible rfl)
        try simp only [Act.put, List.setIfInBounds_toArray, List.set_cons_zero, List.set_cons_succ]
        refine wpAnyH_take (i := 8) (oi := { dst := some 68, op := Op.indexAddr 39 (Operand.tmp 65) (Operand.tmp 67), type := 0, pos := "ref.go:122", after := #[{ on := 5, ground := Ground.data }, { on := 7, ground := Ground.data }, { on := 10, ground := Ground.gcOnly Departure.lateStores }], guard := none }) (v := .pointer (some ⟨gA, k2, none⟩)) rfl (by kernel_rfl) (by kernel_rfl) (by kernel_rfl) (fun _ _ _ h => h) (Or.inl ⟨by rfl, ?hy22_8⟩) (by assumption) ?rest22_8
        case hy22_8 => (intro w hSw; (try dsimp only at hSw); go_simp; try with_reducible rfl)
        try simp only [Act.put, List.setIfInBounds_toArray, List.set_cons_zero, List.set_cons_succ]
        refine wpAnyH_take (i := 9) (oi := { dst := some 69, op := Op.load 41 (Operand.tmp 68), type := 41, pos := "ref.go:122", after := #[{ on := 8, ground := Ground.data }, { on := 10, ground := Ground.gcOnly Departure.lateStores }], guard := none }) (v := .int .u32 (N2 : Int)) rfl (by kernel_rfl) (by kernel_rfl) (by kernel_rfl) (fun _ _ _ h => h) (Or.inl ⟨by rfl, ?hy22_9⟩) (by assumption) ?rest22_9
        case hy22_9 => (intro w1 hSw; have hq := (hSw.2 k2 lk2).trans e2; go_simp; try with_reducible rfl)
        try simp only [Act.put, List.setIfInBounds_toArray, List.set_cons_zero, List.set_cons_succ]
        refine wpAnyH_take (i := 10) (oi := { dst := some 9, op := Op.assign (Operand.tmp 64), type := 41, pos := "ref.go:122", after := #[{ on := 4, ground := Ground.data }, { on := 0, ground := Ground.phase }, { on := 1, ground := Ground.phase }, { on := 2, ground := Ground.phase }, { on := 3, ground := Ground.phase }, { on := 4, ground := Ground.phase }, { on := 5, ground := Ground.textOnly Departure.lateStores }, { on := 6, ground := Ground.textOnly Departure.lateStores }, { on := 7, ground := Ground.textOnly Departure.lateStores }, { on := 8, ground := Ground.textOnly Departure.lateStores }, { on := 9, ground := Ground.textOnly Departure.lateStores }], guard := none }) (v := .int .u32 (N15 : Int)) rfl (by kernel_rfl) (by kernel_rfl) (by kernel_rfl) (fun _ _ _ h => h) (Or.inl ⟨by rfl, ?hy22_10⟩) (by assumption) ?rest22_10
        case hy22_10 => (intro w hSw; (try dsimp only at hSw); go_simp; try with_reducible rfl)
        try simp only [Act.put, List.setIfInBounds_toArray, List.set_cons_zero, List.set_cons_succ]
        refine wpAnyH_take (i := 11) (oi := { dst := some 10, op := Op.assign (Operand.tmp 69), type := 41, pos := "ref.go:122", after := #[{ on := 9, ground := Ground.data }, { on := 10, ground := Ground.chain }, { on := 0, ground := Ground.phase }, { on := 1, ground := Ground.phase }, { on := 2, ground := Ground.phase }, { on := 3, ground := Ground.phase }, { on := 4, ground := Ground.phase }, { on := 5, ground := Ground.phase }, { on := 6, ground := Ground.phase }, { on := 7, ground := Ground.phase }, { on := 8, ground := Ground.phase }, { on := 9, ground := Ground.phase }, { on := 10, ground := Ground.phase }], guard := none }) (v := .int .u32 (N2 : Int)) rfl (by kernel_rfl) (by kernel_rfl) (by kernel_rfl) (fun _ _ _ h => h) (Or.inl ⟨by rfl, ?hy22_11⟩) (by assumption) ?rest22_11
        case hy22_11 => (intro w hSw; (try dsimp only at hSw); go_simp; try with_reducible rfl)
        try simp only [Act.put, List.setIfInBounds_toArray, List.set_cons_zero, List.set_cons_succ]
        refine wpAnyH_done (by kernel_rfl) ?_ _
        go_upto_region 8 with fail
        obtain ⟨wx, hwx⟩ : ∃ z, z = wq := ⟨_, rfl⟩
        subst hwx
        have HR7 := HS
        have hdq := HO.out.drew
        clear hHeld HS HO HOq
        obtain ⟨N77, hN77⟩ : ∃ z, ((rr x15 7)).toNat = z := ⟨_, rfl⟩
        have q77 : ∀ w : World, Calls Tryd.prog 25 #[.int .u32 (N15 : Int), .int .u64 7] w fun e w' => e = .returned (.int .u32 (N77 : Int)) ∧ w = w' := fun w => by rw [← hN15, ← hN77]; exact refRotr_any _ 7 (by omega) (by omega) w
        have Q77 := Lib.hid q77
        clear q77
        obtain ⟨N79, hN79⟩ : ∃ z, ((rr x15 18)).toNat = z := ⟨_, rfl⟩
        have q79 : ∀ w : World, Calls Tryd.prog 25 #[.int .u32 (N15 : Int), .int .u64 18] w fun e w' => e = .returned (.int .u32 (N79 : Int)) ∧ w = w' := fun w => by rw [← hN15, ← hN79]; exact refRotr_any _ 18 (by omega) (by omega) w
        have Q79 := Lib.hid q79
        clear q79
        obtain ⟨N80, hN80⟩ : ∃ z, (((rr x15 7) ^^^ (rr x15 18))).toNat = z := ⟨_, rfl⟩
        have f80 : bits BinOp.xor IntKind.u32 (N77 : Int) (N79 : Int) = (N80 : Int) := by rw [← hN77, ← hN79, ← hN80]; exact xor_w _ _
        obtain ⟨N82, hN82⟩ : ∃ z, ((x15 >>> 3)).toNat = z := ⟨_, rfl⟩
        have f82 : (N15 : Int) / 8 = (N82 : Int) := by rw [← hN15, ← hN82]; exact shr3_w _
        obtain ⟨N83, hN83⟩ : ∃ z, ((((rr x15 7) ^^^ (rr x15 18)) ^^^ (x15 >>> 3))).toNat = z := ⟨_, rfl⟩
        have f83 : bits BinOp.xor IntKind.u32 (N80 : Int) (N82 : Int) = (N83 : Int) := by rw [← hN80, ← hN82, ← hN83]; exact xor_w _ _
        obtain ⟨N84, hN84⟩ : ∃ z, ((x16 + (((rr x15 7) ^^^ (rr x15 18)) ^^^ (x15 >>> 3)))).toNat = z := ⟨_, rfl⟩
        have f84 : IntKind.u32.wrap ((N16 : Int) + (N83 : Int)) = (N84 : Int) := by rw [← hN16, ← hN83, ← hN84]; rw [wrap_u32]; exact add_w _ _
        obtain ⟨N90, hN90⟩ : ∃ z, (((x16 + (((rr x15 7) ^^^ (rr x15 18)) ^^^ (x15 >>> 3))) + x7)).toNat = z := ⟨_, rfl⟩
        have f90 : IntKind.u32.wrap ((N84 : Int) + (N7 : Int)) = (N90 : Int) := by rw [← hN84, ← hN7, ← hN90]; rw [wrap_u32]; exact add_w _ _
        obtain ⟨N92, hN92⟩ : ∃ z, ((rr x2 17)).toNat = z := ⟨_, rfl⟩
        have q92 : ∀ w : World, Calls Tryd.prog 25 #[.int .u32 (N2 : Int), .int .u64 17] w fun e w' => e = .returned (.int .u32 (N92 : Int)) ∧ w = w' := fun w => by rw [← hN2, ← hN92]; exact refRotr_any _ 17 (by omega) (by omega) w
        have Q92 := Lib.hid q92
        clear q92
        obtain ⟨N94, hN94⟩ : ∃ z, ((rr x2 19)).toNat = z := ⟨_, rfl⟩
        have q94 : ∀ w : World, Calls Tryd.prog 25 #[.int .u32 (N2 : Int), .int .u64 19] w fun e w' => e = .returned (.int .u32 (N94 : Int)) ∧ w = w' := fun w => by rw [← hN2, ← hN94]; exact refRotr_any _ 19 (by omega) (by omega) w
        have Q94 := Lib.hid q94
        clear q94
        obtain ⟨N95, hN95⟩ : ∃ z, (((rr x2 17) ^^^ (rr x2 19))).toNat = z := ⟨_, rfl⟩
        have f95 : bits BinOp.xor IntKind.u32 (N92 : Int) (N94 : Int) = (N95 : Int) := by rw [← hN92, ← hN94, ← hN95]; exact xor_w _ _
        obtain ⟨N97, hN97⟩ : ∃ z, ((x2 >>> 10)).toNat = z := ⟨_, rfl⟩
        have f97 : (N2 : Int) / 1024 = (N97 : Int) := by rw [← hN2, ← hN97]; exact shr10_w _
        obtain ⟨N98, hN98⟩ : ∃ z, ((((rr x2 17) ^^^ (rr x2 19)) ^^^ (x2 >>> 10))).toNat = z := ⟨_, rfl⟩
        have f98 : bits BinOp.xor IntKind.u32 (N95 : Int) (N97 : Int) = (N98 : Int) := by rw [← hN95, ← hN97, ← hN98]; exact xor_w _ _
        obtain ⟨N99, hN99⟩ : ∃ z, ((((x16 + (((rr x15 7) ^^^ (rr x15 18)) ^^^ (x15 >>> 3))) + x7) + (((rr x2 17) ^^^ (rr x2 19)) ^^^ (x2 >>> 10)))).toNat = z := ⟨_, rfl⟩
        have f99 : IntKind.u32.wrap ((N90 : Int) + (N98 : Int)) = (N99 : Int) := by rw [← hN90, ← hN98, ← hN99]; rw [wrap_u32]; exact add_w _ _
        have hS0 : (Below w.heap.size w wx.drew ∧ ∀ j, j < t → World.cell? wx.drew ⟨gA, j, none⟩ = (wvs (wordsN L t))[j]?) := ⟨below_drew' HR7.out.1, fun j hj => HR7.out.2 j hj⟩
        obtain ⟨wq, hwq⟩ : ∃ z, wx.drew = z := ⟨_, rfl⟩
        refine wp_region_held_drew (S := fun y => (Below w.heap.size w y ∧ ∀ j, j < t → World.cell? y ⟨gA, j, none⟩ = (wvs (wordsN L t))[j]?)) (by kernel_rfl) hS0 (fun hHeld => ?_)
        rw [hwq] at hHeld hS0 hdq ⊢
        have HS := Lib.hid hS0
        have HO := Lib.hid hdq
        have HOq := HO
        clear hwq hS0 hdq
        have hgq : gA < wq.heap.size := by have := cell_lt (HS.out.2 0 (by omega) |>.trans (List.getElem?_eq_getElem (by rw [wvs_len, wordsN_len]; omega))); exact this
        skip
        refine wpAnyH_take (i := 0) (oi := { dst := some 70, op := Op.move (Operand.tmp 7), type := 39, pos := "ref.go:123", after := #[], guard := none }) (v := .slice (some ⟨gA, 0, none⟩) t d) rfl (by kernel_rfl) (by kernel_rfl) (by kernel_rfl) (fun _ _ _ h => h) (Or.inl ⟨by rfl, ?hy33_0⟩) (by assumption) ?rest33_0
        case hy33_0 => (intro w hSw; (try dsimp only at hSw); go_simp; try with_reducible rfl)
        try simp only [Act.put, List.setIfInBounds_toArray, List.set_cons_zero, List.set_cons_succ]
        refine wpAnyH_take (i := 1) (oi := { dst := some 71, op := Op.move (Operand.tmp 7), type := 39, pos := "ref.go:123", after := #[], guard := none }) (v := .slice (some ⟨gA, 0, none⟩) t d) rfl (by kernel_rfl) (by kernel_rfl) (by kernel_rfl) (fun _ _ _ h => h) (Or.inl ⟨by rfl, ?hy33_1⟩) (by assumption) ?rest33_1
        case hy33_1 => (intro w hSw; (try dsimp only at hSw); go_simp; try with_reducible rfl)
        try simp only [Act.put, List.setIfInBounds_toArray, List.set_cons_zero, List.set_cons_succ]
        refine wpAnyH_take (i := 2) (oi := { dst := some 72, op := Op.move (Operand.tmp 8), type := 3, pos := "ref.go:123", after := #[], guard := none }) (v := .int .i64 (t : Int)) rfl (by kernel_rfl) (by kernel_rfl) (by kernel_rfl) (fun _ _ _ h => h) (Or.inl ⟨by rfl, ?hy33_2⟩) (by assumption) ?rest33_2
        case hy33_2 => (intro w hSw; (try dsimp only at hSw); go_simp; try with_reducible rfl)
        try simp only [Act.put, List.setIfInBounds_toArray, List.set_cons_zero, List.set_cons_succ]
        refine wpAnyH_take (i := 3) (oi := { dst := some 73, op := Op.binOp BinOp.sub 3 (Operand.tmp 72) (Operand.const (Value.int IntKind.i64 16)) 3, type := 3, pos := "ref.go:123", after := #[{ on := 2, ground := Ground.data }], guard := none }) (v := .int .i64 (k16 : Int)) rfl (by kernel_rfl) (by kernel_rfl) (by kernel_rfl) (fun _ _ _ h => h) (Or.inl ⟨by rfl, ?hy33_3⟩) (by assumption) ?rest33_3
        case hy33_3 => (intro w hSw; (try dsimp only at hSw); go_simp; try with_reducible rfl)
        try simp only [Act.put, List.setIfInBounds_toArray, List.set_cons_zero, List.set_cons_succ]
        refine wpAnyH_take (i := 4) (oi := { dst := some 74, op := Op.indexAddr 39 (Operand.tmp 71) (Operand.tmp 73), type := 0, pos := "ref.go:123", after := #[{ on := 1, ground := Ground.data }, { on := 3, ground := Ground.data }], guard := none }) (v := .pointer (some ⟨gA, k16, none⟩)) rfl (by kernel_rfl) (by kernel_rfl) (by kernel_rfl) (fun _ _ _ h => h) (Or.inl ⟨by rfl, ?hy33_4⟩) (by assumption) ?rest33_4
        case hy33_4 => (intro w hSw; (try dsimp only at hSw); go_simp; try with_reducible rfl)
        try simp only [Act.put, List.setIfInBounds_toArray, List.set_cons_zero, List.set_cons_succ]
        refine wpAnyH_take (i := 5) (oi := { dst := some 75, op := Op.load 41 (Operand.tmp 74), type := 41, pos := "ref.go:123", after := #[{ on := 4, ground := Ground.data }], guard := none }) (v := .int .u32 (N16 : Int)) rfl (by kernel_rfl) (by kernel_rfl) (by kernel_rfl) (fun _ _ _ h => h) (Or.inl ⟨by rfl, ?hy33_5⟩) (by assumption) ?rest33_5
        case hy33_5 => (intro w1 hSw; have hq := (hSw.2 k16 lk16).trans e16; go_simp; try with_reducible rfl)
        try simp only [Act.put, List.setIfInBounds_toArray, List.set_cons_zero, List.set_cons_succ]
        refine wpAnyH_take (i := 6) (oi := { dst := some 76, op := Op.move (Operand.tmp 9), type := 41, pos := "ref.go:123", after := #[], guard := none }) (v := .int .u32 (N15 : Int)) rfl (by kernel_rfl) (by kernel_rfl) (by kernel_rfl) (fun _ _ _ h => h) (Or.inl ⟨by rfl, ?hy33_6⟩) (by assumption) ?rest33_6
        case hy33_6 => (intro w hSw; (try dsimp only at hSw); go_simp; try with_reducible rfl)
        try simp only [Act.put, List.setIfInBounds_toArray, List.set_cons_zero, List.set_cons_succ]
        refine wpAnyH_take (i := 8) (oi := { dst := some 78, op := Op.move (Operand.tmp 9), type := 41, pos := "ref.go:123", after := #[], guard := none }) (v := .int .u32 (N15 : Int)) rfl (by kernel_rfl) (by kernel_rfl) (by kernel_rfl) (fun _ _ _ h => h) (Or.inl ⟨by rfl, ?hy33_8⟩) (by assumption) ?rest33_8
        case hy33_8 => (intro w hSw; (try dsimp only at hSw); go_simp; try with_reducible rfl)
        try simp only [Act.put, List.setIfInBounds_toArray, List.set_cons_zero, List.set_cons_succ]
        refine wpAnyH_take (i := 11) (oi := { dst := some 81, op := Op.move (Operand.tmp 9), type := 41, pos := "ref.go:123", after := #[], guard := none }) (v := .int .u32 (N15 : Int)) rfl (by kernel_rfl) (by kernel_rfl) (by kernel_rfl) (fun _ _ _ h => h) (Or.inl ⟨by rfl, ?hy33_11⟩) (by assumption) ?rest33_11
        case hy33_11 => (intro w hSw; (try dsimp only at hSw); go_simp; try with_reducible rfl)
        try simp only [Act.put, List.setIfInBounds_toArray, List.set_cons_zero, List.set_cons_succ]
        refine wpAnyH_take (i := 12) (oi := { dst := some 82, op := Op.binOp BinOp.shr 41 (Operand.tmp 81) (Operand.const (Value.int IntKind.u64 3)) 31, type := 41, pos := "ref.go:123", after := #[{ on := 11, ground := Ground.data }], guard := none }) (v := .int .u32 (N82 : Int)) rfl (by kernel_rfl) (by kernel_rfl) (by kernel_rfl) (fun _ _ _ h => h) (Or.inl ⟨by rfl, ?hy33_12⟩) (by assumption) ?rest33_12
        case hy33_12 => (intro w hSw; (try dsimp only at hSw); go_simp; try with_reducible rfl)
        try simp only [Act.put, List.setIfInBounds_toArray, List.set_cons_zero, List.set_cons_succ]
        refine wpAnyH_take (i := 15) (oi := { dst := some 85, op := Op.move (Operand.tmp 7), type := 39, pos := "ref.go:123", after := #[], guard := none }) (v := .slice (some ⟨gA, 0, none⟩) t d) rfl (by kernel_rfl) (by kernel_rfl) (by kernel_rfl) (fun _ _ _ h => h) (Or.inl ⟨by rfl, ?hy33_15⟩) (by assumption) ?rest33_15
        case hy33_15 => (intro w hSw; (try dsimp only at hSw); go_simp; try with_reducible rfl)
        try simp only [Act.put, List.setIfInBounds_toArray, List.set_cons_zero, List.set_cons_succ]
        refine wpAnyH_take (i := 16) (oi := { dst := some 86, op := Op.move (Operand.tmp 8), type := 3, pos := "ref.go:123", after := #[], guard := none }) (v := .int .i64 (t : Int)) rfl (by kernel_rfl) (by kernel_rfl) (by kernel_rfl) (fun _ _ _ h => h) (Or.inl ⟨by rfl, ?hy33_16⟩) (by assumption) ?rest33_16
        case hy33_16 => (intro w hSw; (try dsimp only at hSw); go_simp; try with_reducible rfl)
        try simp only [Act.put, List.setIfInBounds_toArray, List.set_cons_zero, List.set_cons_succ]
        refine wpAnyH_take (i := 17) (oi := { dst := some 87, op := Op.binOp BinOp.sub 3 (Operand.tmp 86) (Operand.const (Value.int IntKind.i64 7)) 3, type := 3, pos := "ref.go:123", after := #[{ on := 16, ground := Ground.data }], guard := none }) (v := .int .i64 (k7 : Int)) rfl (by kernel_rfl) (by kernel_rfl) (by kernel_rfl) (fun _ _ _ h => h) (Or.inl ⟨by rfl, ?hy33_17⟩) (by assumption) ?rest33_17
        case hy33_17 => (intro w hSw; (try dsimp only at hSw); go_simp; try with_reducible rfl)
        try simp only [Act.put, List.setIfInBounds_toArray, List.set_cons_zero, List.set_cons_succ]
        refine wpAnyH_take (i := 18) (oi := { dst := some 88, op := Op.indexAddr 39 (Operand.tmp 85) (Operand.tmp 87), type := 0, pos := "ref.go:123", after := #[{ on := 15, ground := Ground.data }, { on := 17, ground := Ground.data }], guard := none }) (v := .pointer (some ⟨gA, k7, none⟩)) rfl (by kernel_rfl) (by kernel_rfl) (by kernel_rfl) (fun _ _ _ h => h) (Or.inl ⟨by rfl, ?hy33_18⟩) (by assumption) ?rest33_18
        case hy33_18 => (intro w hSw; (try dsimp only at hSw); go_simp; try with_reducible rfl)
        try simp only [Act.put, List.setIfInBounds_toArray, List.set_cons_zero, List.set_cons_succ]
        refine wpAnyH_take (i := 19) (oi := { dst := some 89, op := Op.load 41 (Operand.tmp 88), type := 41, pos := "ref.go:123", after := #[{ on := 18, ground := Ground.data }], guard := none }) (v := .int .u32 (N7 : Int)) rfl (by kernel_rfl) (by kernel_rfl) (by kernel_rfl) (fun _ _ _ h => h) (Or.inl ⟨by rfl, ?hy33_19⟩) (by assumption) ?rest33_19
        case hy33_19 => (intro w1 hSw; have hq := (hSw.2 k7 lk7).trans e7; go_simp; try with_reducible rfl)
        try simp only [Act.put, List.setIfInBounds_toArray, List.set_cons_zero, List.set_cons_succ]
        refine wpAnyH_take (i := 21) (oi := { dst := some 91, op := Op.move (Operand.tmp 10), type := 41, pos := "ref.go:123", after := #[], guard := none }) (v := .int .u32 (N2 : Int)) rfl (by kernel_rfl) (by kernel_rfl) (by kernel_rfl) (fun _ _ _ h => h) (Or.inl ⟨by rfl, ?hy33_21⟩) (by assumption) ?rest33_21
        case hy33_21 => (intro w hSw; (try dsimp only at hSw); go_simp; try with_reducible rfl)
        try simp only [Act.put, List.setIfInBounds_toArray, List.set_cons_zero, List.set_cons_succ]
        refine wpAnyH_take (i := 23) (oi := { dst := some 93, op := Op.move (Operand.tmp 10), type := 41, pos := "ref.go:123", after := #[], guard := none }) (v := .int .u32 (N2 : Int)) rfl (by kernel_rfl) (by kernel_rfl) (by kernel_rfl) (fun _ _ _ h => h) (Or.inl ⟨by rfl, ?hy33_23⟩) (by assumption) ?rest33_23
        case hy33_23 => (intro w hSw; (try dsimp only at hSw); go_simp; try with_reducible rfl)
        try simp only [Act.put, List.setIfInBounds_toArray, List.set_cons_zero, List.set_cons_succ]
        refine wpAnyH_take (i := 26) (oi := { dst := some 96, op := Op.move (Operand.tmp 10), type := 41, pos := "ref.go:123", after := #[], guard := none }) (v := .int .u32 (N2 : Int)) rfl (by kernel_rfl) (by kernel_rfl) (by kernel_rfl) (fun _ _ _ h => h) (Or.inl ⟨by rfl, ?hy33_26⟩) (by assumption) ?rest33_26
        case hy33_26 => (intro w hSw; (try dsimp only at hSw); go_simp; try with_reducible rfl)
        try simp only [Act.put, List.setIfInBounds_toArray, List.set_cons_zero, List.set_cons_succ]
        refine wpAnyH_take (i := 27) (oi := { dst := some 97, op := Op.binOp BinOp.shr 41 (Operand.tmp 96) (Operand.const (Value.int IntKind.u64 10)) 31, type := 41, pos := "ref.go:123", after := #[{ on := 26, ground := Ground.data }], guard := none }) (v := .int .u32 (N97 : Int)) rfl (by kernel_rfl) (by kernel_rfl) (by kernel_rfl) (fun _ _ _ h => h) (Or.inl ⟨by rfl, ?hy33_27⟩) (by assumption) ?rest33_27
        case hy33_27 => (intro w hSw; (try dsimp only at hSw); go_simp; try with_reducible rfl)
        try simp only [Act.put, List.setIfInBounds_toArray, List.set_cons_zero, List.set_cons_succ]
        refine wpAnyH_ready (rs := [7]) (by kernel_rfl) (by simp) ?_
        refine AllReadyH.cons (o := { dst := some 77, op := Op.call { callee := Callee.value (Operand.func 25), args := #[Operand.tmp 76, Operand.const (Value.int IntKind.u64 7)], argTypes := #[41, 31] }, type := 41, pos := "ref.go:123", after := #[{ on := 6, ground := Ground.data }], guard := none }) rfl (fun K hK => ?_) AllReadyH.nil
        go_simp
        refine (Q77.out _).mono ?_
        rintro e w' ⟨rfl, rfl⟩
        refine hK.out _ _ (by assumption) (fun _ => ?_)
        clear hK K
        try simp only [Act.put, List.setIfInBounds_toArray, List.set_cons_zero, List.set_cons_succ]
        refine wpAnyH_ready (rs := [9]) (by kernel_rfl) (by simp) ?_
        refine AllReadyH.cons (o := { dst := some 79, op := Op.call { callee := Callee.value (Operand.func 25), args := #[Operand.tmp 78, Operand.const (Value.int IntKind.u64 18)], argTypes := #[41, 31] }, type := 41, pos := "ref.go:123", after := #[{ on := 8, ground := Ground.data }, { on := 7, ground := Ground.chain }], guard := none }) rfl (fun K hK => ?_) AllReadyH.nil
        go_simp
        refine (Q79.out _).mono ?_
        rintro e w' ⟨rfl, rfl⟩
        refine hK.out _ _ (by assumption) (fun _ => ?_)
        clear hK K
        try simp only [Act.put, List.setIfInBounds_toArray, List.set_cons_zero, List.set_cons_succ]
        refine wpAnyH_take (i := 10) (oi := { dst := some 80, op := Op.binOp BinOp.xor 41 (Operand.tmp 77) (Operand.tmp 79) 41, type := 41, pos := "ref.go:123", after := #[{ on := 7, ground := Ground.data }, { on := 9, ground := Ground.data }], guard := none }) (v := .int .u32 (N80 : Int)) rfl (by kernel_rfl) (by kernel_rfl) (by kernel_rfl) (fun _ _ _ h => h) (Or.inl ⟨by rfl, ?hy33_10⟩) (by assumption) ?rest33_10
        case hy33_10 => (intro w hSw; (try dsimp only at hSw); go_simp; try with_reducible rfl)
        try simp only [Act.put, List.setIfInBounds_toArray, List.set_cons_zero, List.set_cons_succ]
        refine wpAnyH_take (i := 13) (oi := { dst := some 83, op := Op.binOp BinOp.xor 41 (Operand.tmp 80) (Operand.tmp 82) 41, type := 41, pos := "ref.go:123", after := #[{ on := 10, ground := Ground.data }, { on := 12, ground := Ground.data }], guard := none }) (v := .int .u32 (N83 : Int)) rfl (by kernel_rfl) (by kernel_rfl) (by kernel_rfl) (fun _ _ _ h => h) (Or.inl ⟨by rfl, ?hy33_13⟩) (by assumption) ?rest33_13
        case hy33_13 => (intro w hSw; (try dsimp only at hSw); go_simp; try with_reducible rfl)
        try simp only [Act.put, List.setIfInBounds_toArray, List.set_cons_zero, List.set_cons_succ]
        refine wpAnyH_take (i := 14) (oi := { dst := some 84, op := Op.binOp BinOp.add 41 (Operand.tmp 75) (Operand.tmp 83) 41, type := 41, pos := "ref.go:123", after := #[{ on := 5, ground := Ground.data }, { on := 13, ground := Ground.data }], guard := none }) (v := .int .u32 (N84 : Int)) rfl (by kernel_rfl) (by kernel_rfl) (by kernel_rfl) (fun _ _ _ h => h) (Or.inl ⟨by rfl, ?hy33_14⟩) (by assumption) ?rest33_14
        case hy33_14 => (intro w hSw; (try dsimp only at hSw); go_simp; try with_reducible rfl)
        try simp only [Act.put, List.setIfInBounds_toArray, List.set_cons_zero, List.set_cons_succ]
        refine wpAnyH_take (i := 20) (oi := { dst := some 90, op := Op.binOp BinOp.add 41 (Operand.tmp 84) (Operand.tmp 89) 41, type := 41, pos := "ref.go:123", after := #[{ on := 14, ground := Ground.data }, { on := 19, ground := Ground.data }], guard := none }) (v := .int .u32 (N90 : Int)) rfl (by kernel_rfl) (by kernel_rfl) (by kernel_rfl) (fun _ _ _ h => h) (Or.inl ⟨by rfl, ?hy33_20⟩) (by assumption) ?rest33_20
        case hy33_20 => (intro w hSw; (try dsimp only at hSw); go_simp; try with_reducible rfl)
        try simp only [Act.put, List.setIfInBounds_toArray, List.set_cons_zero, List.set_cons_succ]
        refine wpAnyH_ready (rs := [22]) (by kernel_rfl) (by simp) ?_
        refine AllReadyH.cons (o := { dst := some 92, op := Op.call { callee := Callee.value (Operand.func 25), args := #[Operand.tmp 91, Operand.const (Value.int IntKind.u64 17)], argTypes := #[41, 31] }, type := 41, pos := "ref.go:123", after := #[{ on := 21, ground := Ground.data }, { on := 9, ground := Ground.chain }], guard := none }) rfl (fun K hK => ?_) AllReadyH.nil
        go_simp
        refine (Q92.out _).mono ?_
        rintro e w' ⟨rfl, rfl⟩
        refine hK.out _ _ (by assumption) (fun _ => ?_)
        clear hK K
        try simp only [Act.put, List.setIfInBounds_toArray, List.set_cons_zero, List.set_cons_succ]
        refine wpAnyH_ready (rs := [24]) (by kernel_rfl) (by simp) ?_
        refine AllReadyH.cons (o := { dst := some 94, op := Op.call { callee := Callee.value (Operand.func 25), args := #[Operand.tmp 93, Operand.const (Value.int IntKind.u64 19)], argTypes := #[41, 31] }, type := 41, pos := "ref.go:123", after := #[{ on := 23, ground := Ground.data }, { on := 22, ground := Ground.chain }], guard := none }) rfl (fun K hK => ?_) AllReadyH.nil
        go_simp
        refine (Q94.out _).mono ?_
        rintro e w' ⟨rfl, rfl⟩
        refine hK.out _ _ (by assumption) (fun _ => ?_)
        clear hK K
        try simp only [Act.put, List.setIfInBounds_toArray, List.set_cons_zero, List.set_cons_succ]
        refine wpAnyH_take (i := 25) (oi := { dst := some 95, op := Op.binOp BinOp.xor 41 (Operand.tmp 92) (Operand.tmp 94) 41, type := 41, pos := "ref.go:123", after := #[{ on := 22, ground := Ground.data }, { on := 24, ground := Ground.data }], guard := none }) (v := .int .u32 (N95 : Int)) rfl (by kernel_rfl) (by kernel_rfl) (by kernel_rfl) (fun _ _ _ h => h) (Or.inl ⟨by rfl, ?hy33_25⟩) (by assumption) ?rest33_25
        case hy33_25 => (intro w hSw; (try dsimp only at hSw); go_simp; try with_reducible rfl)
        try simp only [Act.put, List.setIfInBounds_toArray, List.set_cons_zero, List.set_cons_succ]
        refine wpAnyH_take (i := 28) (oi := { dst := some 98, op := Op.binOp BinOp.xor 41 (Operand.tmp 95) (Operand.tmp 97) 41, type := 41, pos := "ref.go:123", after := #[{ on := 25, ground := Ground.data }, { on := 27, ground := Ground.data }], guard := none }) (v := .int .u32 (N98 : Int)) rfl (by kernel_rfl) (by kernel_rfl) (by kernel_rfl) (fun _ _ _ h => h) (Or.inl ⟨by rfl, ?hy33_28⟩) (by assumption) ?rest33_28
        case hy33_28 => (intro w hSw; (try dsimp only at hSw); go_simp; try with_reducible rfl)
        try simp only [Act.put, List.setIfInBounds_toArray, List.set_cons_zero, List.set_cons_succ]
        refine wpAnyH_take (i := 29) (oi := { dst := some 99, op := Op.binOp BinOp.add 41 (Operand.tmp 90) (Operand.tmp 98) 41, type := 41, pos := "ref.go:123", after := #[{ on := 20, ground := Ground.data }, { on := 28, ground := Ground.data }], guard := none }) (v := .int .u32 (N99 : Int)) rfl (by kernel_rfl) (by kernel_rfl) (by kernel_rfl) (fun _ _ _ h => h) (Or.inl ⟨by rfl, ?hy33_29⟩) (by assumption) ?rest33_29
        case hy33_29 => (intro w hSw; (try dsimp only at hSw); go_simp; try with_reducible rfl)
        try simp only [Act.put, List.setIfInBounds_toArray, List.set_cons_zero, List.set_cons_succ]
        refine wpAnyH_ready (rs := [30]) (by kernel_rfl) (by simp) ?_
        refine AllReadyH.cons (o := { dst := some 100, op := Op.buildSlice 39 1 #[(0, Operand.tmp 99)], type := 39, pos := "ref.go:123", after := #[{ on := 29, ground := Ground.data }], guard := none }) rfl (fun K hK => ?_) AllReadyH.nil
        refine (if_pos (by rfl)).mpr ?_
        unfold Oper.wp
        go_simp
        have hV0 : (Below w.heap.size w (wq.alloc (.cells #[.int .u32 (N99 : Int)] 41)) ∧ ∀ j, j < t → World.cell? (wq.alloc (.cells #[.int .u32 (N99 : Int)] 41)) ⟨gA, j, none⟩ = (wvs (wordsN L t))[j]?) := ⟨HS.out.1.alloc HS.out.1.size _, fun j hj => (((Below.refl wq.heap.size wq).alloc (Nat.le_refl _) _).cell (p := ⟨gA, j, none⟩) hgq).trans (HS.out.2 j hj)⟩
        refine hK.out _ _ hV0 (fun _ => ?_)
        clear hK K
        try simp only [Act.put, List.setIfInBounds_toArray, List.set_cons_zero, List.set_cons_succ]
        refine wpAnyH_ready (rs := [31]) (by kernel_rfl) (by simp) ?_
        refine AllReadyH.cons (o := { dst := some 101, op := Op.call { callee := Callee.builtin Builtin.append, args := #[Operand.tmp 70, Operand.tmp 100], argTypes := #[39, 39] }, type := 39, pos := "ref.go:123", after := #[{ on := 0, ground := Ground.data }, { on := 30, ground := Ground.data }, { on := 24, ground := Ground.chain }], guard := none }) rfl (fun K hK => ?_) AllReadyH.nil
        refine step_app_keep u32tyB rfl (.tmp 70) (.tmp 100) rfl rfl rfl ((HOq.out).alloc _) (Rd.one _ _ _) (one1 rfl) (by omega) (by omega) (by simp; have := (HS.out).1.size; omega) (by omega) ?_
        intro A3 n3 d3 w3 ho3 hn3 hb3 hk3
        have hb33 := hV0.1.trans hb3
        refine hK.out _ _ ⟨hb33, hk3⟩ (fun _ => ?_)
        clear hK K
        try simp only [Act.put, List.setIfInBounds_toArray, List.set_cons_zero, List.set_cons_succ]
        refine wpAnyH_take (i := 32) (oi := { dst := some 7, op := Op.assign (Operand.tmp 101), type := 39, pos := "ref.go:123", after := #[{ on := 31, ground := Ground.data }, { on := 31, ground := Ground.chain }, { on := 0, ground := Ground.phase }, { on := 1, ground := Ground.phase }, { on := 2, ground := Ground.phase }, { on := 3, ground := Ground.phase }, { on := 4, ground := Ground.phase }, { on := 5, ground := Ground.phase }, { on := 6, ground := Ground.phase }, { on := 7, ground := Ground.phase }, { on := 8, ground := Ground.phase }, { on := 9, ground := Ground.phase }, { on := 10, ground := Ground.phase }, { on := 11, ground := Ground.phase }, { on := 12, ground := Ground.phase }, { on := 13, ground := Ground.phase }, { on := 14, ground := Ground.phase }, { on := 15, ground := Ground.phase }, { on := 16, ground := Ground.phase }, { on := 17, ground := Ground.phase }, { on := 18, ground := Ground.phase }, { on := 19, ground := Ground.phase }, { on := 20, ground := Ground.phase }, { on := 21, ground := Ground.phase }, { on := 22, ground := Ground.phase }, { on := 23, ground := Ground.phase }, { on := 24, ground := Ground.phase }, { on := 25, ground := Ground.phase }, { on := 26, ground := Ground.phase }, { on := 27, ground := Ground.phase }, { on := 28, ground := Ground.phase }, { on := 29, ground := Ground.phase }, { on := 30, ground := Ground.phase }, { on := 31, ground := Ground.phase }], guard := none }) (v := .slice A3 n3 d3) rfl (by kernel_rfl) (by kernel_rfl) (by kernel_rfl) (fun _ _ _ h => h) (Or.inl ⟨by rfl, ?hy33_32⟩) (by assumption) ?rest33_32
        case hy33_32 => (intro w hSw; (try dsimp only at hSw); go_simp; try with_reducible rfl)
        try simp only [Act.put, List.setIfInBounds_toArray, List.set_cons_zero, List.set_cons_succ]
        refine wpAnyH_done (by kernel_rfl) ?_ _
        clear f80 f82 f83 f84 f90 f95 f97 f98 f99
        go_wp2_with fail
        subst hn3
        have hwn : wvs (wordsN L (t + 1)) = wvs (wordsN L t) ++ [.int .u32 (N99 : Int)] := by
          rw [show wordsN L (t + 1) = wordsN L t ++ [made (wordsN L t) t] by rw [wordsN, if_neg h16], HMADE.out, ← hN99]
          simp [wvs, wv, far, near]
        rw [← hwn] at ho3
        exact ⟨⟨t + 1, A3, d3, rfl, by go_num, by omega, Lib.hid ⟨ho3, hb33⟩⟩, by simp [intOf]; omega⟩
    · obtain rfl : t = 64 := by omega
      have k64n : ¬ ((64 : Nat) : Int) < 64 := by omega
      obtain ⟨wo, hwo⟩ : ∃ z, z = wr := ⟨_, rfl⟩
      subst hwo
      have hlit := Ow.lit0 wo 41 (Nat.le_refl wo.heap.size)
      have hXb : Below wo.heap.size wo (wo.alloc (.cells #[] 41)) := (Below.refl _ _).alloc (Nat.le_refl _) _
      have hsr := (H.out.1.below (HR.out.2.trans (hXb.mono hws)) hB)
      have HRW := Lib.hid (And.intro HR.out.1.rd HR.out.2)
      have HXB := Lib.hid hXb
      clear hXb
      go_upto_region 11 with (at_builtin; refine wp_app u32tyB rfl (.tmp 103) (.tmp 104) rfl rfl rfl hlit hsr (wvs_one _) (by omega) (by omega) (by simp) ?_; intro A4 N4 d4 w4 ho4 hN4 hb4 hg4)
      have hN48 : N4 = 8 := by have := ho4.len; rw [List.nil_append, wvs_len] at this; exact this.symm
      subst hN48
      rw [List.nil_append] at ho4
      have H4 := Lib.hid (And.intro ho4 (HXB.out.trans hb4))
      clear ho4 hb4 hg4 hlit hsr
      go_wp2_with fail
      go_loopw [11, 106] (fun v i wr => ∃ (t : Nat) (A : Option Addr) (d : Nat), v = .slice A 8 d ∧ i = .int .i64 (t : Int) ∧ t ≤ 64 ∧ Hid (Ow wr wo.heap.size 41 A 8 d (wvs (stL (roundsN st cubes (wordsN L 64) t))) ∧ Below wo.heap.size wo wr)) (fun _ i _ => 64 - (intOf i).toNat)
      case atStart => exact ⟨0, A4, d4, rfl, rfl, by omega, Lib.hid ⟨H4.out.1, H4.out.2⟩⟩
      case round =>
        obtain ⟨t, Av, dv, rfl, rfl, ht, HV⟩ := hrel
        by_cases hlt2 : t < 64
        · have k64 : (t : Int) < 64 := by omega
          have hrd := HRW.out.1.below HV.out.2 (Nat.le_refl _)
          have hkd := H.out.2.1.below (HRW.out.2.trans (HV.out.2.mono HRW.out.2.size)) hB
          obtain ⟨gV, rfl, hgV1, hgV2⟩ := HV.out.1.at0 (by omega)
          obtain ⟨bk, ok, rfl, hbk, hck⟩ := hkd.at_ hlt2
          obtain ⟨bw, ow, rfl, hbw, hcw⟩ := hrd.at_ hlt2
          have hvc : ∀ j v, (wvs (stL (roundsN st cubes (wordsN L 64) t)))[j]? = some v → wr.cell? ⟨gV, j, none⟩ = some v := fun j v hv => by
            have := World.ownsRow.cells HV.out.1 (g := gV) rfl j v hv
            rwa [Addr.add_lit, Nat.zero_add] at this
          rw [wvs_at cubes t (by show t < 64; exact hlt2)] at hck
          rw [wvs_at (wordsN L 64) t (by rw [wordsN_len]; exact hlt2)] at hcw
          have hRn : roundsN st cubes (wordsN L 64) (t + 1) = DM.step (roundsN st cubes (wordsN L 64) t) (cubes.getD t 0) ((wordsN L 64).getD t 0) := rfl
          have hov := HV.out.1
          have hbv := HV.out.2
          obtain ⟨R, hR⟩ : ∃ R, roundsN st cubes (wordsN L 64) t = R := ⟨_, rfl⟩
          obtain ⟨K, hK0⟩ : ∃ K, cubes.getD t 0 = K := ⟨_, rfl⟩
          obtain ⟨X, hX0⟩ : ∃ X, (wordsN L 64).getD t 0 = X := ⟨_, rfl⟩
          rw [hR] at hvc hRn hov
          rw [hK0] at hck hRn
          rw [hX0] at hcw hRn
          have ca := hvc 0 _ rfl
          have cb := hvc 1 _ rfl
          have cc := hvc 2 _ rfl
          have cd := hvc 3 _ rfl
          have ce := hvc 4 _ rfl
          have cf := hvc 5 _ rfl
          have cg := hvc 6 _ rfl
          have ch := hvc 7 _ rfl
          unfold wv at ca cb cc cd ce cf cg ch hck hcw
          obtain ⟨Na, hNa⟩ : ∃ z, R.a.toNat = z := ⟨_, rfl⟩
          rw [hNa] at ca
          obtain ⟨Nb, hNb⟩ : ∃ z, R.b.toNat = z := ⟨_, rfl⟩
          rw [hNb] at cb
          obtain ⟨Nc, hNc⟩ : ∃ z, R.c.toNat = z := ⟨_, rfl⟩
          rw [hNc] at cc
          obtain ⟨Nd, hNd⟩ : ∃ z, R.d.toNat = z := ⟨_, rfl⟩
          rw [hNd] at cd
          obtain ⟨Ne, hNe⟩ : ∃ z, R.e.toNat = z := ⟨_, rfl⟩
          rw [hNe] at ce
          obtain ⟨Nf, hNf⟩ : ∃ z, R.f.toNat = z := ⟨_, rfl⟩
          rw [hNf] at cf
          obtain ⟨Ng, hNg⟩ : ∃ z, R.g.toNat = z := ⟨_, rfl⟩
          rw [hNg] at cg
          obtain ⟨Nh, hNh⟩ : ∃ z, R.h.toNat = z := ⟨_, rfl⟩
          rw [hNh] at ch
          obtain ⟨NK, hNK⟩ : ∃ z, K.toNat = z := ⟨_, rfl⟩
          rw [hNK] at hck
          obtain ⟨NX, hNX⟩ : ∃ z, X.toNat = z := ⟨_, rfl⟩
          rw [hNX] at hcw
          have hNdk := hNd
          have hdv := hov.cap.1
          have HRN := Lib.hid hRn
          have HOV := Lib.hid hov
          have hbkr : bk < wr.heap.size := by have := hbv.size; omega
          clear hvc hRn hov hR hK0 hX0 hrd hkd
          go_upto_region 14 with fail
          have hdq := HOV.out.drew
          have hS0 : Below wr.heap.size wr wr.drew := below_drew' (Below.refl _ _)
          obtain ⟨wq, hwq⟩ : ∃ z, wr.drew = z := ⟨_, rfl⟩
          refine wp_region_held_drew (S := fun y => Below wr.heap.size wr y) (by kernel_rfl) hS0 (fun hHeld => ?_)
          rw [hwq] at hHeld hS0 hdq ⊢
          have HS := Lib.hid hS0
          have HO := Lib.hid hdq
          have HOq := HO
          clear hwq hS0 hdq
          refine wpAnyH_take (i := 0) (oi := { dst := some 109, op := Op.move (Operand.tmp 11), type := 39, pos := "ref.go:127", after := #[], guard := none }) (v := .slice (some ⟨gV, 0, none⟩) 8 dv) rfl (by kernel_rfl) (by kernel_rfl) (by kernel_rfl) (fun _ _ _ h => h) (Or.inl ⟨by rfl, ?hy44_0⟩) (by assumption) ?rest44_0
          case hy44_0 => (intro w hSw; (try dsimp only at hSw); go_simp; try with_reducible rfl)
          try simp only [Act.put, List.setIfInBounds_toArray, List.set_cons_zero, List.set_cons_succ]
          refine wpAnyH_take (i := 1) (oi := { dst := some 110, op := Op.indexAddr 39 (Operand.tmp 109) (Operand.const (Value.int IntKind.i64 0)), type := 0, pos := "ref.go:127", after := #[{ on := 0, ground := Ground.data }], guard := none }) (v := .pointer (some ⟨gV, 0, none⟩)) rfl (by kernel_rfl) (by kernel_rfl) (by kernel_rfl) (fun _ _ _ h => h) (Or.inl ⟨by rfl, ?hy44_1⟩) (by assumption) ?rest44_1
          case hy44_1 => (intro w hSw; (try dsimp only at hSw); go_simp; try with_reducible rfl)
          try simp only [Act.put, List.setIfInBounds_toArray, List.set_cons_zero, List.set_cons_succ]
          refine wpAnyH_take (i := 2) (oi := { dst := some 111, op := Op.load 41 (Operand.tmp 110), type := 41, pos := "ref.go:127", after := #[{ on := 1, ground := Ground.data }], guard := none }) (v := .int .u32 (Na : Int)) rfl (by kernel_rfl) (by kernel_rfl) (by kernel_rfl) (fun _ _ _ h => h) (Or.inl ⟨by rfl, ?hy44_2⟩) (by assumption) ?rest44_2
          case hy44_2 => (intro w1 hSw; have hq := (Below.cell hSw (p := ⟨gV, 0, none⟩) hgV2).trans ca; go_simp; try with_reducible rfl)
          try simp only [Act.put, List.setIfInBounds_toArray, List.set_cons_zero, List.set_cons_succ]
          refine wpAnyH_take (i := 3) (oi := { dst := some 112, op := Op.move (Operand.tmp 11), type := 39, pos := "ref.go:127", after := #[{ on := 6, ground := Ground.gcOnly Departure.lateStores }], guard := none }) (v := .slice (some ⟨gV, 0, none⟩) 8 dv) rfl (by kernel_rfl) (by kernel_rfl) (by kernel_rfl) (fun _ _ _ h => h) (Or.inl ⟨by rfl, ?hy44_3⟩) (by assumption) ?rest44_3
          case hy44_3 => (intro w hSw; (try dsimp only at hSw); go_simp; try with_reducible rfl)
          try simp only [Act.put, List.setIfInBounds_toArray, List.set_cons_zero, List.set_cons_succ]
          refine wpAnyH_take (i := 4) (oi := { dst := some 113, op := Op.indexAddr 39 (Operand.tmp 112) (Operand.const (Value.int IntKind.i64 4)), type := 0, pos := "ref.go:127", after := #[{ on := 3, ground := Ground.data }, { on := 6, ground := Ground.gcOnly Departure.lateStores }], guard := none }) (v := .pointer (some ⟨gV, 4, none⟩)) rfl (by kernel_rfl) (by kernel_rfl) (by kernel_rfl) (fun _ _ _ h => h) (Or.inl ⟨by rfl, ?hy44_4⟩) (by assumption) ?rest44_4
          case hy44_4 => (intro w hSw; (try dsimp only at hSw); go_simp; try with_reducible rfl)
          try simp only [Act.put, List.setIfInBounds_toArray, List.set_cons_zero, List.set_cons_succ]
          refine wpAnyH_take (i := 5) (oi := { dst := some 114, op := Op.load 41 (Operand.tmp 113), type := 41, pos := "ref.go:127", after := #[{ on := 4, ground := Ground.data }, { on := 6, ground := Ground.gcOnly Departure.lateStores }], guard := none }) (v := .int .u32 (Ne : Int)) rfl (by kernel_rfl) (by kernel_rfl) (by kernel_rfl) (fun _ _ _ h => h) (Or.inl ⟨by rfl, ?hy44_5⟩) (by assumption) ?rest44_5
          case hy44_5 => (intro w1 hSw; have hq := (Below.cell hSw (p := ⟨gV, 4, none⟩) hgV2).trans ce; go_simp; try with_reducible rfl)
          try simp only [Act.put, List.setIfInBounds_toArray, List.set_cons_zero, List.set_cons_succ]
          refine wpAnyH_take (i := 6) (oi := { dst := some 13, op := Op.assign (Operand.tmp 111), type := 41, pos := "ref.go:127", after := #[{ on := 2, ground := Ground.data }, { on := 0, ground := Ground.phase }, { on := 1, ground := Ground.phase }, { on := 2, ground := Ground.phase }, { on := 3, ground := Ground.textOnly Departure.lateStores }, { on := 4, ground := Ground.textOnly Departure.lateStores }, { on := 5, ground := Ground.textOnly Departure.lateStores }], guard := none }) (v := .int .u32 (Na : Int)) rfl (by kernel_rfl) (by kernel_rfl) (by kernel_rfl) (fun _ _ _ h => h) (Or.inl ⟨by rfl, ?hy44_6⟩) (by assumption) ?rest44_6
          case hy44_6 => (intro w hSw; (try dsimp only at hSw); go_simp; try with_reducible rfl)
          try simp only [Act.put, List.setIfInBounds_toArray, List.set_cons_zero, List.set_cons_succ]
          refine wpAnyH_take (i := 7) (oi := { dst := some 14, op := Op.assign (Operand.tmp 114), type := 41, pos := "ref.go:127", after := #[{ on := 5, ground := Ground.data }, { on := 6, ground := Ground.chain }, { on := 0, ground := Ground.phase }, { on := 1, ground := Ground.phase }, { on := 2, ground := Ground.phase }, { on := 3, ground := Ground.phase }, { on := 4, ground := Ground.phase }, { on := 5, ground := Ground.phase }, { on := 6, ground := Ground.phase }], guard := none }) (v := .int .u32 (Ne : Int)) rfl (by kernel_rfl) (by kernel_rfl) (by kernel_rfl) (fun _ _ _ h => h) (Or.inl ⟨by rfl, ?hy44_7⟩) (by assumption) ?rest44_7
          case hy44_7 => (intro w hSw; (try dsimp only at hSw); go_simp; try with_reducible rfl)
          try simp only [Act.put, List.setIfInBounds_toArray, List.set_cons_zero, List.set_cons_succ]
          refine wpAnyH_done (by kernel_rfl) ?_ _
          go_upto_region 15 with fail
          obtain ⟨wx, hwx⟩ : ∃ z, z = wq := ⟨_, rfl⟩
          subst hwx
          have HS7 := HS
          have hdq := HO.out.drew
          clear hHeld HS HO HOq
          obtain ⟨N119, hN119⟩ : ∃ z, ((rr R.e 6)).toNat = z := ⟨_, rfl⟩
          have q119 : ∀ w : World, Calls Tryd.prog 25 #[.int .u32 (Ne : Int), .int .u64 6] w fun e w' => e = .returned (.int .u32 (N119 : Int)) ∧ w = w' := fun w => by rw [← hNe, ← hN119]; exact refRotr_any _ 6 (by omega) (by omega) w
          have Q119 := Lib.hid q119
          clear q119
          obtain ⟨N121, hN121⟩ : ∃ z, ((rr R.e 11)).toNat = z := ⟨_, rfl⟩
          have q121 : ∀ w : World, Calls Tryd.prog 25 #[.int .u32 (Ne : Int), .int .u64 11] w fun e w' => e = .returned (.int .u32 (N121 : Int)) ∧ w = w' := fun w => by rw [← hNe, ← hN121]; exact refRotr_any _ 11 (by omega) (by omega) w
          have Q121 := Lib.hid q121
          clear q121
          obtain ⟨N122, hN122⟩ : ∃ z, (((rr R.e 6) ^^^ (rr R.e 11))).toNat = z := ⟨_, rfl⟩
          have f122 : bits BinOp.xor IntKind.u32 (N119 : Int) (N121 : Int) = (N122 : Int) := by rw [← hN119, ← hN121, ← hN122]; exact xor_w _ _
          obtain ⟨N124, hN124⟩ : ∃ z, ((rr R.e 25)).toNat = z := ⟨_, rfl⟩
          have q124 : ∀ w : World, Calls Tryd.prog 25 #[.int .u32 (Ne : Int), .int .u64 25] w fun e w' => e = .returned (.int .u32 (N124 : Int)) ∧ w = w' := fun w => by rw [← hNe, ← hN124]; exact refRotr_any _ 25 (by omega) (by omega) w
          have Q124 := Lib.hid q124
          clear q124
          obtain ⟨N125, hN125⟩ : ∃ z, ((((rr R.e 6) ^^^ (rr R.e 11)) ^^^ (rr R.e 25))).toNat = z := ⟨_, rfl⟩
          have f125 : bits BinOp.xor IntKind.u32 (N122 : Int) (N124 : Int) = (N125 : Int) := by rw [← hN122, ← hN124, ← hN125]; exact xor_w _ _
          obtain ⟨N126, hN126⟩ : ∃ z, ((R.h + (((rr R.e 6) ^^^ (rr R.e 11)) ^^^ (rr R.e 25)))).toNat = z := ⟨_, rfl⟩
          have f126 : IntKind.u32.wrap ((Nh : Int) + (N125 : Int)) = (N126 : Int) := by rw [← hNh, ← hN125, ← hN126]; rw [wrap_u32]; exact add_w _ _
          obtain ⟨N131, hN131⟩ : ∃ z, ((R.e &&& R.f)).toNat = z := ⟨_, rfl⟩
          have f131 : bits BinOp.and IntKind.u32 (Ne : Int) (Nf : Int) = (N131 : Int) := by rw [← hNe, ← hNf, ← hN131]; exact and_w _ _
          obtain ⟨N133, hN133⟩ : ∃ z, ((~~~R.e)).toNat = z := ⟨_, rfl⟩
          have f133 : IntKind.u32.wrap (4294967295 - (Ne : Int)) = (N133 : Int) := by rw [← hNe, ← hN133]; exact sub_not _
          obtain ⟨N137, hN137⟩ : ∃ z, (((~~~R.e) &&& R.g)).toNat = z := ⟨_, rfl⟩
          have f137 : bits BinOp.and IntKind.u32 (N133 : Int) (Ng : Int) = (N137 : Int) := by rw [← hN133, ← hNg, ← hN137]; exact and_w _ _
          obtain ⟨N138, hN138⟩ : ∃ z, (((R.e &&& R.f) ^^^ ((~~~R.e) &&& R.g))).toNat = z := ⟨_, rfl⟩
          have f138 : bits BinOp.xor IntKind.u32 (N131 : Int) (N137 : Int) = (N138 : Int) := by rw [← hN131, ← hN137, ← hN138]; exact xor_w _ _
          obtain ⟨N139, hN139⟩ : ∃ z, (((R.h + (((rr R.e 6) ^^^ (rr R.e 11)) ^^^ (rr R.e 25))) + ((R.e &&& R.f) ^^^ ((~~~R.e) &&& R.g)))).toNat = z := ⟨_, rfl⟩
          have f139 : IntKind.u32.wrap ((N126 : Int) + (N138 : Int)) = (N139 : Int) := by rw [← hN126, ← hN138, ← hN139]; rw [wrap_u32]; exact add_w _ _
          obtain ⟨N144, hN144⟩ : ∃ z, ((((R.h + (((rr R.e 6) ^^^ (rr R.e 11)) ^^^ (rr R.e 25))) + ((R.e &&& R.f) ^^^ ((~~~R.e) &&& R.g))) + K)).toNat = z := ⟨_, rfl⟩
          have f144 : IntKind.u32.wrap ((N139 : Int) + (NK : Int)) = (N144 : Int) := by rw [← hN139, ← hNK, ← hN144]; rw [wrap_u32]; exact add_w _ _
          obtain ⟨N149, hN149⟩ : ∃ z, (((((R.h + (((rr R.e 6) ^^^ (rr R.e 11)) ^^^ (rr R.e 25))) + ((R.e &&& R.f) ^^^ ((~~~R.e) &&& R.g))) + K) + X)).toNat = z := ⟨_, rfl⟩
          have f149 : IntKind.u32.wrap ((N144 : Int) + (NX : Int)) = (N149 : Int) := by rw [← hN144, ← hNX, ← hN149]; rw [wrap_u32]; exact add_w _ _
          have hS0 : Below wr.heap.size wr wx.drew := below_drew' HS7.out
          obtain ⟨wq, hwq⟩ : ∃ z, wx.drew = z := ⟨_, rfl⟩
          refine wp_region_held_drew (S := fun y => Below wr.heap.size wr y) (by kernel_rfl) hS0 (fun hHeld => ?_)
          rw [hwq] at hHeld hS0 hdq ⊢
          have HS := Lib.hid hS0
          have HO := Lib.hid hdq
          have HOq := HO
          clear hwq hS0 hdq
          have hbwr : bw < wr.heap.size := by have := hbv.size; omega
          refine wpAnyH_take (i := 0) (oi := { dst := some 115, op := Op.move (Operand.tmp 11), type := 39, pos := "ref.go:128", after := #[], guard := none }) (v := .slice (some ⟨gV, 0, none⟩) 8 dv) rfl (by kernel_rfl) (by kernel_rfl) (by kernel_rfl) (fun _ _ _ h => h) (Or.inl ⟨by rfl, ?hy55_0⟩) (by assumption) ?rest55_0
          case hy55_0 => (intro w hSw; (try dsimp only at hSw); go_simp; try with_reducible rfl)
          try simp only [Act.put, List.setIfInBounds_toArray, List.set_cons_zero, List.set_cons_succ]
          refine wpAnyH_take (i := 1) (oi := { dst := some 116, op := Op.indexAddr 39 (Operand.tmp 115) (Operand.const (Value.int IntKind.i64 7)), type := 0, pos := "ref.go:128", after := #[{ on := 0, ground := Ground.data }], guard := none }) (v := .pointer (some ⟨gV, 7, none⟩)) rfl (by kernel_rfl) (by kernel_rfl) (by kernel_rfl) (fun _ _ _ h => h) (Or.inl ⟨by rfl, ?hy55_1⟩) (by assumption) ?rest55_1
          case hy55_1 => (intro w hSw; (try dsimp only at hSw); go_simp; try with_reducible rfl)
          try simp only [Act.put, List.setIfInBounds_toArray, List.set_cons_zero, List.set_cons_succ]
          refine wpAnyH_take (i := 2) (oi := { dst := some 117, op := Op.load 41 (Operand.tmp 116), type := 41, pos := "ref.go:128", after := #[{ on := 1, ground := Ground.data }], guard := none }) (v := .int .u32 (Nh : Int)) rfl (by kernel_rfl) (by kernel_rfl) (by kernel_rfl) (fun _ _ _ h => h) (Or.inl ⟨by rfl, ?hy55_2⟩) (by assumption) ?rest55_2
          case hy55_2 => (intro w1 hSw; have hq := (Below.cell hSw (p := ⟨gV, 7, none⟩) hgV2).trans ch; go_simp; try with_reducible rfl)
          try simp only [Act.put, List.setIfInBounds_toArray, List.set_cons_zero, List.set_cons_succ]
          refine wpAnyH_take (i := 3) (oi := { dst := some 118, op := Op.move (Operand.tmp 14), type := 41, pos := "ref.go:128", after := #[], guard := none }) (v := .int .u32 (Ne : Int)) rfl (by kernel_rfl) (by kernel_rfl) (by kernel_rfl) (fun _ _ _ h => h) (Or.inl ⟨by rfl, ?hy55_3⟩) (by assumption) ?rest55_3
          case hy55_3 => (intro w hSw; (try dsimp only at hSw); go_simp; try with_reducible rfl)
          try simp only [Act.put, List.setIfInBounds_toArray, List.set_cons_zero, List.set_cons_succ]
          refine wpAnyH_take (i := 5) (oi := { dst := some 120, op := Op.move (Operand.tmp 14), type := 41, pos := "ref.go:128", after := #[], guard := none }) (v := .int .u32 (Ne : Int)) rfl (by kernel_rfl) (by kernel_rfl) (by kernel_rfl) (fun _ _ _ h => h) (Or.inl ⟨by rfl, ?hy55_5⟩) (by assumption) ?rest55_5
          case hy55_5 => (intro w hSw; (try dsimp only at hSw); go_simp; try with_reducible rfl)
          try simp only [Act.put, List.setIfInBounds_toArray, List.set_cons_zero, List.set_cons_succ]
          refine wpAnyH_take (i := 8) (oi := { dst := some 123, op := Op.move (Operand.tmp 14), type := 41, pos := "ref.go:128", after := #[], guard := none }) (v := .int .u32 (Ne : Int)) rfl (by kernel_rfl) (by kernel_rfl) (by kernel_rfl) (fun _ _ _ h => h) (Or.inl ⟨by rfl, ?hy55_8⟩) (by assumption) ?rest55_8
          case hy55_8 => (intro w hSw; (try dsimp only at hSw); go_simp; try with_reducible rfl)
          try simp only [Act.put, List.setIfInBounds_toArray, List.set_cons_zero, List.set_cons_succ]
          refine wpAnyH_take (i := 12) (oi := { dst := some 127, op := Op.move (Operand.tmp 14), type := 41, pos := "ref.go:128", after := #[], guard := none }) (v := .int .u32 (Ne : Int)) rfl (by kernel_rfl) (by kernel_rfl) (by kernel_rfl) (fun _ _ _ h => h) (Or.inl ⟨by rfl, ?hy55_12⟩) (by assumption) ?rest55_12
          case hy55_12 => (intro w hSw; (try dsimp only at hSw); go_simp; try with_reducible rfl)
          try simp only [Act.put, List.setIfInBounds_toArray, List.set_cons_zero, List.set_cons_succ]
          refine wpAnyH_take (i := 13) (oi := { dst := some 128, op := Op.move (Operand.tmp 11), type := 39, pos := "ref.go:128", after := #[], guard := none }) (v := .slice (some ⟨gV, 0, none⟩) 8 dv) rfl (by kernel_rfl) (by kernel_rfl) (by kernel_rfl) (fun _ _ _ h => h) (Or.inl ⟨by rfl, ?hy55_13⟩) (by assumption) ?rest55_13
          case hy55_13 => (intro w hSw; (try dsimp only at hSw); go_simp; try with_reducible rfl)
          try simp only [Act.put, List.setIfInBounds_toArray, List.set_cons_zero, List.set_cons_succ]
          refine wpAnyH_take (i := 14) (oi := { dst := some 129, op := Op.indexAddr 39 (Operand.tmp 128) (Operand.const (Value.int IntKind.i64 5)), type := 0, pos := "ref.go:128", after := #[{ on := 13, ground := Ground.data }], guard := none }) (v := .pointer (some ⟨gV, 5, none⟩)) rfl (by kernel_rfl) (by kernel_rfl) (by kernel_rfl) (fun _ _ _ h => h) (Or.inl ⟨by rfl, ?hy55_14⟩) (by assumption) ?rest55_14
          case hy55_14 => (intro w hSw; (try dsimp only at hSw); go_simp; try with_reducible rfl)
          try simp only [Act.put, List.setIfInBounds_toArray, List.set_cons_zero, List.set_cons_succ]
          refine wpAnyH_take (i := 15) (oi := { dst := some 130, op := Op.load 41 (Operand.tmp 129), type := 41, pos := "ref.go:128", after := #[{ on := 14, ground := Ground.data }], guard := none }) (v := .int .u32 (Nf : Int)) rfl (by kernel_rfl) (by kernel_rfl) (by kernel_rfl) (fun _ _ _ h => h) (Or.inl ⟨by rfl, ?hy55_15⟩) (by assumption) ?rest55_15
          case hy55_15 => (intro w1 hSw; have hq := (Below.cell hSw (p := ⟨gV, 5, none⟩) hgV2).trans cf; go_simp; try with_reducible rfl)
          try simp only [Act.put, List.setIfInBounds_toArray, List.set_cons_zero, List.set_cons_succ]
          refine wpAnyH_take (i := 16) (oi := { dst := some 131, op := Op.binOp BinOp.and 41 (Operand.tmp 127) (Operand.tmp 130) 41, type := 41, pos := "ref.go:128", after := #[{ on := 12, ground := Ground.data }, { on := 15, ground := Ground.data }], guard := none }) (v := .int .u32 (N131 : Int)) rfl (by kernel_rfl) (by kernel_rfl) (by kernel_rfl) (fun _ _ _ h => h) (Or.inl ⟨by rfl, ?hy55_16⟩) (by assumption) ?rest55_16
          case hy55_16 => (intro w hSw; (try dsimp only at hSw); go_simp; try with_reducible rfl)
          try simp only [Act.put, List.setIfInBounds_toArray, List.set_cons_zero, List.set_cons_succ]
          refine wpAnyH_take (i := 17) (oi := { dst := some 132, op := Op.move (Operand.tmp 14), type := 41, pos := "ref.go:128", after := #[], guard := none }) (v := .int .u32 (Ne : Int)) rfl (by kernel_rfl) (by kernel_rfl) (by kernel_rfl) (fun _ _ _ h => h) (Or.inl ⟨by rfl, ?hy55_17⟩) (by assumption) ?rest55_17
          case hy55_17 => (intro w hSw; (try dsimp only at hSw); go_simp; try with_reducible rfl)
          try simp only [Act.put, List.setIfInBounds_toArray, List.set_cons_zero, List.set_cons_succ]
          refine wpAnyH_take (i := 18) (oi := { dst := some 133, op := Op.binOp BinOp.sub 41 (Operand.const (Value.int IntKind.u32 4294967295)) (Operand.tmp 132) 41, type := 41, pos := "ref.go:128", after := #[{ on := 17, ground := Ground.data }], guard := none }) (v := .int .u32 (N133 : Int)) rfl (by kernel_rfl) (by kernel_rfl) (by kernel_rfl) (fun _ _ _ h => h) (Or.inl ⟨by rfl, ?hy55_18⟩) (by assumption) ?rest55_18
          case hy55_18 => (intro w hSw; (try dsimp only at hSw); go_simp; try with_reducible rfl)
          try simp only [Act.put, List.setIfInBounds_toArray, List.set_cons_zero, List.set_cons_succ]
          refine wpAnyH_take (i := 19) (oi := { dst := some 134, op := Op.move (Operand.tmp 11), type := 39, pos := "ref.go:128", after := #[], guard := none }) (v := .slice (some ⟨gV, 0, none⟩) 8 dv) rfl (by kernel_rfl) (by kernel_rfl) (by kernel_rfl) (fun _ _ _ h => h) (Or.inl ⟨by rfl, ?hy55_19⟩) (by assumption) ?rest55_19
          case hy55_19 => (intro w hSw; (try dsimp only at hSw); go_simp; try with_reducible rfl)
          try simp only [Act.put, List.setIfInBounds_toArray, List.set_cons_zero, List.set_cons_succ]
          refine wpAnyH_take (i := 20) (oi := { dst := some 135, op := Op.indexAddr 39 (Operand.tmp 134) (Operand.const (Value.int IntKind.i64 6)), type := 0, pos := "ref.go:128", after := #[{ on := 19, ground := Ground.data }], guard := none }) (v := .pointer (some ⟨gV, 6, none⟩)) rfl (by kernel_rfl) (by kernel_rfl) (by kernel_rfl) (fun _ _ _ h => h) (Or.inl ⟨by rfl, ?hy55_20⟩) (by assumption) ?rest55_20
          case hy55_20 => (intro w hSw; (try dsimp only at hSw); go_simp; try with_reducible rfl)
          try simp only [Act.put, List.setIfInBounds_toArray, List.set_cons_zero, List.set_cons_succ]
          refine wpAnyH_take (i := 21) (oi := { dst := some 136, op := Op.load 41 (Operand.tmp 135), type := 41, pos := "ref.go:128", after := #[{ on := 20, ground := Ground.data }], guard := none }) (v := .int .u32 (Ng : Int)) rfl (by kernel_rfl) (by kernel_rfl) (by kernel_rfl) (fun _ _ _ h => h) (Or.inl ⟨by rfl, ?hy55_21⟩) (by assumption) ?rest55_21
          case hy55_21 => (intro w1 hSw; have hq := (Below.cell hSw (p := ⟨gV, 6, none⟩) hgV2).trans cg; go_simp; try with_reducible rfl)
          try simp only [Act.put, List.setIfInBounds_toArray, List.set_cons_zero, List.set_cons_succ]
          refine wpAnyH_take (i := 22) (oi := { dst := some 137, op := Op.binOp BinOp.and 41 (Operand.tmp 133) (Operand.tmp 136) 41, type := 41, pos := "ref.go:128", after := #[{ on := 18, ground := Ground.data }, { on := 21, ground := Ground.data }], guard := none }) (v := .int .u32 (N137 : Int)) rfl (by kernel_rfl) (by kernel_rfl) (by kernel_rfl) (fun _ _ _ h => h) (Or.inl ⟨by rfl, ?hy55_22⟩) (by assumption) ?rest55_22
          case hy55_22 => (intro w hSw; (try dsimp only at hSw); go_simp; try with_reducible rfl)
          try simp only [Act.put, List.setIfInBounds_toArray, List.set_cons_zero, List.set_cons_succ]
          refine wpAnyH_take (i := 23) (oi := { dst := some 138, op := Op.binOp BinOp.xor 41 (Operand.tmp 131) (Operand.tmp 137) 41, type := 41, pos := "ref.go:128", after := #[{ on := 16, ground := Ground.data }, { on := 22, ground := Ground.data }], guard := none }) (v := .int .u32 (N138 : Int)) rfl (by kernel_rfl) (by kernel_rfl) (by kernel_rfl) (fun _ _ _ h => h) (Or.inl ⟨by rfl, ?hy55_23⟩) (by assumption) ?rest55_23
          case hy55_23 => (intro w hSw; (try dsimp only at hSw); go_simp; try with_reducible rfl)
          try simp only [Act.put, List.setIfInBounds_toArray, List.set_cons_zero, List.set_cons_succ]
          refine wpAnyH_take (i := 25) (oi := { dst := some 140, op := Op.move (Operand.tmp 1), type := 39, pos := "ref.go:128", after := #[], guard := none }) (v := .slice (some ⟨bk, ok, none⟩) 64 c1) rfl (by kernel_rfl) (by kernel_rfl) (by kernel_rfl) (fun _ _ _ h => h) (Or.inl ⟨by rfl, ?hy55_25⟩) (by assumption) ?rest55_25
          case hy55_25 => (intro w hSw; (try dsimp only at hSw); go_simp; try with_reducible rfl)
          try simp only [Act.put, List.setIfInBounds_toArray, List.set_cons_zero, List.set_cons_succ]
          refine wpAnyH_take (i := 26) (oi := { dst := some 141, op := Op.move (Operand.tmp 12), type := 3, pos := "ref.go:128", after := #[], guard := none }) (v := .int .i64 (t : Int)) rfl (by kernel_rfl) (by kernel_rfl) (by kernel_rfl) (fun _ _ _ h => h) (Or.inl ⟨by rfl, ?hy55_26⟩) (by assumption) ?rest55_26
          case hy55_26 => (intro w hSw; (try dsimp only at hSw); go_simp; try with_reducible rfl)
          try simp only [Act.put, List.setIfInBounds_toArray, List.set_cons_zero, List.set_cons_succ]
          refine wpAnyH_take (i := 27) (oi := { dst := some 142, op := Op.indexAddr 39 (Operand.tmp 140) (Operand.tmp 141), type := 0, pos := "ref.go:128", after := #[{ on := 25, ground := Ground.data }, { on := 26, ground := Ground.data }], guard := none }) (v := .pointer (some ⟨bk, ok + t, none⟩)) rfl (by kernel_rfl) (by kernel_rfl) (by kernel_rfl) (fun _ _ _ h => h) (Or.inl ⟨by rfl, ?hy55_27⟩) (by assumption) ?rest55_27
          case hy55_27 => (intro w hSw; (try dsimp only at hSw); go_simp; try with_reducible rfl)
          try simp only [Act.put, List.setIfInBounds_toArray, List.set_cons_zero, List.set_cons_succ]
          refine wpAnyH_take (i := 28) (oi := { dst := some 143, op := Op.load 41 (Operand.tmp 142), type := 41, pos := "ref.go:128", after := #[{ on := 27, ground := Ground.data }], guard := none }) (v := .int .u32 (NK : Int)) rfl (by kernel_rfl) (by kernel_rfl) (by kernel_rfl) (fun _ _ _ h => h) (Or.inl ⟨by rfl, ?hy55_28⟩) (by assumption) ?rest55_28
          case hy55_28 => (intro w1 hSw; have hq := (Below.cell hSw (p := ⟨bk, ok + t, none⟩) hbkr).trans hck; go_simp; try with_reducible rfl)
          try simp only [Act.put, List.setIfInBounds_toArray, List.set_cons_zero, List.set_cons_succ]
          refine wpAnyH_take (i := 30) (oi := { dst := some 145, op := Op.move (Operand.tmp 7), type := 39, pos := "ref.go:128", after := #[], guard := none }) (v := .slice (some ⟨bw, ow, none⟩) 64 d) rfl (by kernel_rfl) (by kernel_rfl) (by kernel_rfl) (fun _ _ _ h => h) (Or.inl ⟨by rfl, ?hy55_30⟩) (by assumption) ?rest55_30
          case hy55_30 => (intro w hSw; (try dsimp only at hSw); go_simp; try with_reducible rfl)
          try simp only [Act.put, List.setIfInBounds_toArray, List.set_cons_zero, List.set_cons_succ]
          refine wpAnyH_take (i := 31) (oi := { dst := some 146, op := Op.move (Operand.tmp 12), type := 3, pos := "ref.go:128", after := #[], guard := none }) (v := .int .i64 (t : Int)) rfl (by kernel_rfl) (by kernel_rfl) (by kernel_rfl) (fun _ _ _ h => h) (Or.inl ⟨by rfl, ?hy55_31⟩) (by assumption) ?rest55_31
          case hy55_31 => (intro w hSw; (try dsimp only at hSw); go_simp; try with_reducible rfl)
          try simp only [Act.put, List.setIfInBounds_toArray, List.set_cons_zero, List.set_cons_succ]
          refine wpAnyH_take (i := 32) (oi := { dst := some 147, op := Op.indexAddr 39 (Operand.tmp 145) (Operand.tmp 146), type := 0, pos := "ref.go:128", after := #[{ on := 30, ground := Ground.data }, { on := 31, ground := Ground.data }], guard := none }) (v := .pointer (some ⟨bw, ow + t, none⟩)) rfl (by kernel_rfl) (by kernel_rfl) (by kernel_rfl) (fun _ _ _ h => h) (Or.inl ⟨by rfl, ?hy55_32⟩) (by assumption) ?rest55_32
          case hy55_32 => (intro w hSw; (try dsimp only at hSw); go_simp; try with_reducible rfl)
          try simp only [Act.put, List.setIfInBounds_toArray, List.set_cons_zero, List.set_cons_succ]
          refine wpAnyH_take (i := 33) (oi := { dst := some 148, op := Op.load 41 (Operand.tmp 147), type := 41, pos := "ref.go:128", after := #[{ on := 32, ground := Ground.data }], guard := none }) (v := .int .u32 (NX : Int)) rfl (by kernel_rfl) (by kernel_rfl) (by kernel_rfl) (fun _ _ _ h => h) (Or.inl ⟨by rfl, ?hy55_33⟩) (by assumption) ?rest55_33
          case hy55_33 => (intro w1 hSw; have hq := (Below.cell hSw (p := ⟨bw, ow + t, none⟩) hbwr).trans hcw; go_simp; try with_reducible rfl)
          try simp only [Act.put, List.setIfInBounds_toArray, List.set_cons_zero, List.set_cons_succ]
          refine wpAnyH_ready (rs := [4]) (by kernel_rfl) (by simp) ?_
          refine AllReadyH.cons (o := { dst := some 119, op := Op.call { callee := Callee.value (Operand.func 25), args := #[Operand.tmp 118, Operand.const (Value.int IntKind.u64 6)], argTypes := #[41, 31] }, type := 41, pos := "ref.go:128", after := #[{ on := 3, ground := Ground.data }], guard := none }) rfl (fun K hK => ?_) AllReadyH.nil
          go_simp
          refine (Q119.out _).mono ?_
          rintro e w' ⟨rfl, rfl⟩
          refine hK.out _ _ (by assumption) (fun _ => ?_)
          clear hK K
          try simp only [Act.put, List.setIfInBounds_toArray, List.set_cons_zero, List.set_cons_succ]
          refine wpAnyH_ready (rs := [6]) (by kernel_rfl) (by simp) ?_
          refine AllReadyH.cons (o := { dst := some 121, op := Op.call { callee := Callee.value (Operand.func 25), args := #[Operand.tmp 120, Operand.const (Value.int IntKind.u64 11)], argTypes := #[41, 31] }, type := 41, pos := "ref.go:128", after := #[{ on := 5, ground := Ground.data }, { on := 4, ground := Ground.chain }], guard := none }) rfl (fun K hK => ?_) AllReadyH.nil
          go_simp
          refine (Q121.out _).mono ?_
          rintro e w' ⟨rfl, rfl⟩
          refine hK.out _ _ (by assumption) (fun _ => ?_)
          clear hK K
          try simp only [Act.put, List.setIfInBounds_toArray, List.set_cons_zero, List.set_cons_succ]
          refine wpAnyH_take (i := 7) (oi := { dst := some 122, op := Op.binOp BinOp.xor 41 (Operand.tmp 119) (Operand.tmp 121) 41, type := 41, pos := "ref.go:128", after := #[{ on := 4, ground := Ground.data }, { on := 6, ground := Ground.data }], guard := none }) (v := .int .u32 (N122 : Int)) rfl (by kernel_rfl) (by kernel_rfl) (by kernel_rfl) (fun _ _ _ h => h) (Or.inl ⟨by rfl, ?hy55_7⟩) (by assumption) ?rest55_7
          case hy55_7 => (intro w hSw; (try dsimp only at hSw); go_simp; try with_reducible rfl)
          try simp only [Act.put, List.setIfInBounds_toArray, List.set_cons_zero, List.set_cons_succ]
          refine wpAnyH_ready (rs := [9]) (by kernel_rfl) (by simp) ?_
          refine AllReadyH.cons (o := { dst := some 124, op := Op.call { callee := Callee.value (Operand.func 25), args := #[Operand.tmp 123, Operand.const (Value.int IntKind.u64 25)], argTypes := #[41, 31] }, type := 41, pos := "ref.go:128", after := #[{ on := 8, ground := Ground.data }, { on := 6, ground := Ground.chain }], guard := none }) rfl (fun K hK => ?_) AllReadyH.nil
          go_simp
          refine (Q124.out _).mono ?_
          rintro e w' ⟨rfl, rfl⟩
          refine hK.out _ _ (by assumption) (fun _ => ?_)
          clear hK K
          try simp only [Act.put, List.setIfInBounds_toArray, List.set_cons_zero, List.set_cons_succ]
          refine wpAnyH_take (i := 10) (oi := { dst := some 125, op := Op.binOp BinOp.xor 41 (Operand.tmp 122) (Operand.tmp 124) 41, type := 41, pos := "ref.go:128", after := #[{ on := 7, ground := Ground.data }, { on := 9, ground := Ground.data }], guard := none }) (v := .int .u32 (N125 : Int)) rfl (by kernel_rfl) (by kernel_rfl) (by kernel_rfl) (fun _ _ _ h => h) (Or.inl ⟨by rfl, ?hy55_10⟩) (by assumption) ?rest55_10
          case hy55_10 => (intro w hSw; (try dsimp only at hSw); go_simp; try with_reducible rfl)
          try simp only [Act.put, List.setIfInBounds_toArray, List.set_cons_zero, List.set_cons_succ]
          refine wpAnyH_take (i := 11) (oi := { dst := some 126, op := Op.binOp BinOp.add 41 (Operand.tmp 117) (Operand.tmp 125) 41, type := 41, pos := "ref.go:128", after := #[{ on := 2, ground := Ground.data }, { on := 10, ground := Ground.data }], guard := none }) (v := .int .u32 (N126 : Int)) rfl (by kernel_rfl) (by kernel_rfl) (by kernel_rfl) (fun _ _ _ h => h) (Or.inl ⟨by rfl, ?hy55_11⟩) (by assumption) ?rest55_11
          case hy55_11 => (intro w hSw; (try dsimp only at hSw); go_simp; try with_reducible rfl)
          try simp only [Act.put, List.setIfInBounds_toArray, List.set_cons_zero, List.set_cons_succ]
          refine wpAnyH_take (i := 24) (oi := { dst := some 139, op := Op.binOp BinOp.add 41 (Operand.tmp 126) (Operand.tmp 138) 41, type := 41, pos := "ref.go:128", after := #[{ on := 11, ground := Ground.data }, { on := 23, ground := Ground.data }], guard := none }) (v := .int .u32 (N139 : Int)) rfl (by kernel_rfl) (by kernel_rfl) (by kernel_rfl) (fun _ _ _ h => h) (Or.inl ⟨by rfl, ?hy55_24⟩) (by assumption) ?rest55_24
          case hy55_24 => (intro w hSw; (try dsimp only at hSw); go_simp; try with_reducible rfl)
          try simp only [Act.put, List.setIfInBounds_toArray, List.set_cons_zero, List.set_cons_succ]
          refine wpAnyH_take (i := 29) (oi := { dst := some 144, op := Op.binOp BinOp.add 41 (Operand.tmp 139) (Operand.tmp 143) 41, type := 41, pos := "ref.go:128", after := #[{ on := 24, ground := Ground.data }, { on := 28, ground := Ground.data }], guard := none }) (v := .int .u32 (N144 : Int)) rfl (by kernel_rfl) (by kernel_rfl) (by kernel_rfl) (fun _ _ _ h => h) (Or.inl ⟨by rfl, ?hy55_29⟩) (by assumption) ?rest55_29
          case hy55_29 => (intro w hSw; (try dsimp only at hSw); go_simp; try with_reducible rfl)
          try simp only [Act.put, List.setIfInBounds_toArray, List.set_cons_zero, List.set_cons_succ]
          refine wpAnyH_take (i := 34) (oi := { dst := some 149, op := Op.binOp BinOp.add 41 (Operand.tmp 144) (Operand.tmp 148) 41, type := 41, pos := "ref.go:128", after := #[{ on := 29, ground := Ground.data }, { on := 33, ground := Ground.data }], guard := none }) (v := .int .u32 (N149 : Int)) rfl (by kernel_rfl) (by kernel_rfl) (by kernel_rfl) (fun _ _ _ h => h) (Or.inl ⟨by rfl, ?hy55_34⟩) (by assumption) ?rest55_34
          case hy55_34 => (intro w hSw; (try dsimp only at hSw); go_simp; try with_reducible rfl)
          try simp only [Act.put, List.setIfInBounds_toArray, List.set_cons_zero, List.set_cons_succ]
          refine wpAnyH_take (i := 35) (oi := { dst := some 15, op := Op.assign (Operand.tmp 149), type := 41, pos := "ref.go:128", after := #[{ on := 34, ground := Ground.data }, { on := 9, ground := Ground.chain }, { on := 0, ground := Ground.phase }, { on := 1, ground := Ground.phase }, { on := 2, ground := Ground.phase }, { on := 3, ground := Ground.phase }, { on := 4, ground := Ground.phase }, { on := 5, ground := Ground.phase }, { on := 6, ground := Ground.phase }, { on := 7, ground := Ground.phase }, { on := 8, ground := Ground.phase }, { on := 9, ground := Ground.phase }, { on := 10, ground := Ground.phase }, { on := 11, ground := Ground.phase }, { on := 12, ground := Ground.phase }, { on := 13, ground := Ground.phase }, { on := 14, ground := Ground.phase }, { on := 15, ground := Ground.phase }, { on := 16, ground := Ground.phase }, { on := 17, ground := Ground.phase }, { on := 18, ground := Ground.phase }, { on := 19, ground := Ground.phase }, { on := 20, ground := Ground.phase }, { on := 21, ground := Ground.phase }, { on := 22, ground := Ground.phase }, { on := 23, ground := Ground.phase }, { on := 24, ground := Ground.phase }, { on := 25, ground := Ground.phase }, { on := 26, ground := Ground.phase }, { on := 27, ground := Ground.phase }, { on := 28, ground := Ground.phase }, { on := 29, ground := Ground.phase }, { on := 30, ground := Ground.phase }, { on := 31, ground := Ground.phase }, { on := 32, ground := Ground.phase }, { on := 33, ground := Ground.phase }, { on := 34, ground := Ground.phase }], guard := none }) (v := .int .u32 (N149 : Int)) rfl (by kernel_rfl) (by kernel_rfl) (by kernel_rfl) (fun _ _ _ h => h) (Or.inl ⟨by rfl, ?hy55_35⟩) (by assumption) ?rest55_35
          case hy55_35 => (intro w hSw; (try dsimp only at hSw); go_simp; try with_reducible rfl)
          try simp only [Act.put, List.setIfInBounds_toArray, List.set_cons_zero, List.set_cons_succ]
          refine wpAnyH_done (by kernel_rfl) ?_ _
          clear f122 f125 f126 f131 f133 f137 f138 f139 f144 f149
          go_upto_region 16 with fail
          obtain ⟨wx, hwx⟩ : ∃ z, z = wq := ⟨_, rfl⟩
          subst hwx
          have HS7 := HS
          have hdq := HO.out.drew
          clear hHeld HS HO HOq
          obtain ⟨N151, hN151⟩ : ∃ z, ((rr R.a 2)).toNat = z := ⟨_, rfl⟩
          have q151 : ∀ w : World, Calls Tryd.prog 25 #[.int .u32 (Na : Int), .int .u64 2] w fun e w' => e = .returned (.int .u32 (N151 : Int)) ∧ w = w' := fun w => by rw [← hNa, ← hN151]; exact refRotr_any _ 2 (by omega) (by omega) w
          have Q151 := Lib.hid q151
          clear q151
          obtain ⟨N153, hN153⟩ : ∃ z, ((rr R.a 13)).toNat = z := ⟨_, rfl⟩
          have q153 : ∀ w : World, Calls Tryd.prog 25 #[.int .u32 (Na : Int), .int .u64 13] w fun e w' => e = .returned (.int .u32 (N153 : Int)) ∧ w = w' := fun w => by rw [← hNa, ← hN153]; exact refRotr_any _ 13 (by omega) (by omega) w
          have Q153 := Lib.hid q153
          clear q153
          obtain ⟨N154, hN154⟩ : ∃ z, (((rr R.a 2) ^^^ (rr R.a 13))).toNat = z := ⟨_, rfl⟩
          have f154 : bits BinOp.xor IntKind.u32 (N151 : Int) (N153 : Int) = (N154 : Int) := by rw [← hN151, ← hN153, ← hN154]; exact xor_w _ _
          obtain ⟨N156, hN156⟩ : ∃ z, ((rr R.a 22)).toNat = z := ⟨_, rfl⟩
          have q156 : ∀ w : World, Calls Tryd.prog 25 #[.int .u32 (Na : Int), .int .u64 22] w fun e w' => e = .returned (.int .u32 (N156 : Int)) ∧ w = w' := fun w => by rw [← hNa, ← hN156]; exact refRotr_any _ 22 (by omega) (by omega) w
          have Q156 := Lib.hid q156
          clear q156
          obtain ⟨N157, hN157⟩ : ∃ z, ((((rr R.a 2) ^^^ (rr R.a 13)) ^^^ (rr R.a 22))).toNat = z := ⟨_, rfl⟩
          have f157 : bits BinOp.xor IntKind.u32 (N154 : Int) (N156 : Int) = (N157 : Int) := by rw [← hN154, ← hN156, ← hN157]; exact xor_w _ _
          obtain ⟨N162, hN162⟩ : ∃ z, ((R.a &&& R.b)).toNat = z := ⟨_, rfl⟩
          have f162 : bits BinOp.and IntKind.u32 (Na : Int) (Nb : Int) = (N162 : Int) := by rw [← hNa, ← hNb, ← hN162]; exact and_w _ _
          obtain ⟨N167, hN167⟩ : ∃ z, ((R.a &&& R.c)).toNat = z := ⟨_, rfl⟩
          have f167 : bits BinOp.and IntKind.u32 (Na : Int) (Nc : Int) = (N167 : Int) := by rw [← hNa, ← hNc, ← hN167]; exact and_w _ _
          obtain ⟨N168, hN168⟩ : ∃ z, (((R.a &&& R.b) ^^^ (R.a &&& R.c))).toNat = z := ⟨_, rfl⟩
          have f168 : bits BinOp.xor IntKind.u32 (N162 : Int) (N167 : Int) = (N168 : Int) := by rw [← hN162, ← hN167, ← hN168]; exact xor_w _ _
          obtain ⟨N175, hN175⟩ : ∃ z, ((R.b &&& R.c)).toNat = z := ⟨_, rfl⟩
          have f175 : bits BinOp.and IntKind.u32 (Nb : Int) (Nc : Int) = (N175 : Int) := by rw [← hNb, ← hNc, ← hN175]; exact and_w _ _
          obtain ⟨N176, hN176⟩ : ∃ z, ((((R.a &&& R.b) ^^^ (R.a &&& R.c)) ^^^ (R.b &&& R.c))).toNat = z := ⟨_, rfl⟩
          have f176 : bits BinOp.xor IntKind.u32 (N168 : Int) (N175 : Int) = (N176 : Int) := by rw [← hN168, ← hN175, ← hN176]; exact xor_w _ _
          obtain ⟨N177, hN177⟩ : ∃ z, (((((rr R.a 2) ^^^ (rr R.a 13)) ^^^ (rr R.a 22)) + (((R.a &&& R.b) ^^^ (R.a &&& R.c)) ^^^ (R.b &&& R.c)))).toNat = z := ⟨_, rfl⟩
          have f177 : IntKind.u32.wrap ((N157 : Int) + (N176 : Int)) = (N177 : Int) := by rw [← hN157, ← hN176, ← hN177]; rw [wrap_u32]; exact add_w _ _
          have hS0 : Below wr.heap.size wr wx.drew := below_drew' HS7.out
          obtain ⟨wq, hwq⟩ : ∃ z, wx.drew = z := ⟨_, rfl⟩
          refine wp_region_held_drew (S := fun y => Below wr.heap.size wr y) (by kernel_rfl) hS0 (fun hHeld => ?_)
          rw [hwq] at hHeld hS0 hdq ⊢
          have HS := Lib.hid hS0
          have HO := Lib.hid hdq
          have HOq := HO
          clear hwq hS0 hdq
          refine wpAnyH_take (i := 0) (oi := { dst := some 150, op := Op.move (Operand.tmp 13), type := 41, pos := "ref.go:129", after := #[], guard := none }) (v := .int .u32 (Na : Int)) rfl (by kernel_rfl) (by kernel_rfl) (by kernel_rfl) (fun _ _ _ h => h) (Or.inl ⟨by rfl, ?hy66_0⟩) (by assumption) ?rest66_0
          case hy66_0 => (intro w hSw; (try dsimp only at hSw); go_simp; try with_reducible rfl)
          try simp only [Act.put, List.setIfInBounds_toArray, List.set_cons_zero, List.set_cons_succ]
          refine wpAnyH_take (i := 2) (oi := { dst := some 152, op := Op.move (Operand.tmp 13), type := 41, pos := "ref.go:129", after := #[], guard := none }) (v := .int .u32 (Na : Int)) rfl (by kernel_rfl) (by kernel_rfl) (by kernel_rfl) (fun _ _ _ h => h) (Or.inl ⟨by rfl, ?hy66_2⟩) (by assumption) ?rest66_2
          case hy66_2 => (intro w hSw; (try dsimp only at hSw); go_simp; try with_reducible rfl)
          try simp only [Act.put, List.setIfInBounds_toArray, List.set_cons_zero, List.set_cons_succ]
          refine wpAnyH_take (i := 5) (oi := { dst := some 155, op := Op.move (Operand.tmp 13), type := 41, pos := "ref.go:129", after := #[], guard := none }) (v := .int .u32 (Na : Int)) rfl (by kernel_rfl) (by kernel_rfl) (by kernel_rfl) (fun _ _ _ h => h) (Or.inl ⟨by rfl, ?hy66_5⟩) (by assumption) ?rest66_5
          case hy66_5 => (intro w hSw; (try dsimp only at hSw); go_simp; try with_reducible rfl)
          try simp only [Act.put, List.setIfInBounds_toArray, List.set_cons_zero, List.set_cons_succ]
          refine wpAnyH_take (i := 8) (oi := { dst := some 158, op := Op.move (Operand.tmp 13), type := 41, pos := "ref.go:129", after := #[], guard := none }) (v := .int .u32 (Na : Int)) rfl (by kernel_rfl) (by kernel_rfl) (by kernel_rfl) (fun _ _ _ h => h) (Or.inl ⟨by rfl, ?hy66_8⟩) (by assumption) ?rest66_8
          case hy66_8 => (intro w hSw; (try dsimp only at hSw); go_simp; try with_reducible rfl)
          try simp only [Act.put, List.setIfInBounds_toArray, List.set_cons_zero, List.set_cons_succ]
          refine wpAnyH_take (i := 9) (oi := { dst := some 159, op := Op.move (Operand.tmp 11), type := 39, pos := "ref.go:129", after := #[], guard := none }) (v := .slice (some ⟨gV, 0, none⟩) 8 dv) rfl (by kernel_rfl) (by kernel_rfl) (by kernel_rfl) (fun _ _ _ h => h) (Or.inl ⟨by rfl, ?hy66_9⟩) (by assumption) ?rest66_9
          case hy66_9 => (intro w hSw; (try dsimp only at hSw); go_simp; try with_reducible rfl)
          try simp only [Act.put, List.setIfInBounds_toArray, List.set_cons_zero, List.set_cons_succ]
          refine wpAnyH_take (i := 10) (oi := { dst := some 160, op := Op.indexAddr 39 (Operand.tmp 159) (Operand.const (Value.int IntKind.i64 1)), type := 0, pos := "ref.go:129", after := #[{ on := 9, ground := Ground.data }], guard := none }) (v := .pointer (some ⟨gV, 1, none⟩)) rfl (by kernel_rfl) (by kernel_rfl) (by kernel_rfl) (fun _ _ _ h => h) (Or.inl ⟨by rfl, ?hy66_10⟩) (by assumption) ?rest66_10
          case hy66_10 => (intro w hSw; (try dsimp only at hSw); go_simp; try with_reducible rfl)
          try simp only [Act.put, List.setIfInBounds_toArray, List.set_cons_zero, List.set_cons_succ]
          refine wpAnyH_take (i := 11) (oi := { dst := some 161, op := Op.load 41 (Operand.tmp 160), type := 41, pos := "ref.go:129", after := #[{ on := 10, ground := Ground.data }], guard := none }) (v := .int .u32 (Nb : Int)) rfl (by kernel_rfl) (by kernel_rfl) (by kernel_rfl) (fun _ _ _ h => h) (Or.inl ⟨by rfl, ?hy66_11⟩) (by assumption) ?rest66_11
          case hy66_11 => (intro w1 hSw; have hq := (Below.cell hSw (p := ⟨gV, 1, none⟩) hgV2).trans cb; go_simp; try with_reducible rfl)
          try simp only [Act.put, List.setIfInBounds_toArray, List.set_cons_zero, List.set_cons_succ]
          refine wpAnyH_take (i := 12) (oi := { dst := some 162, op := Op.binOp BinOp.and 41 (Operand.tmp 158) (Operand.tmp 161) 41, type := 41, pos := "ref.go:129", after := #[{ on := 8, ground := Ground.data }, { on := 11, ground := Ground.data }], guard := none }) (v := .int .u32 (N162 : Int)) rfl (by kernel_rfl) (by kernel_rfl) (by kernel_rfl) (fun _ _ _ h => h) (Or.inl ⟨by rfl, ?hy66_12⟩) (by assumption) ?rest66_12
          case hy66_12 => (intro w hSw; (try dsimp only at hSw); go_simp; try with_reducible rfl)
          try simp only [Act.put, List.setIfInBounds_toArray, List.set_cons_zero, List.set_cons_succ]
          refine wpAnyH_take (i := 13) (oi := { dst := some 163, op := Op.move (Operand.tmp 13), type := 41, pos := "ref.go:129", after := #[], guard := none }) (v := .int .u32 (Na : Int)) rfl (by kernel_rfl) (by kernel_rfl) (by kernel_rfl) (fun _ _ _ h => h) (Or.inl ⟨by rfl, ?hy66_13⟩) (by assumption) ?rest66_13
          case hy66_13 => (intro w hSw; (try dsimp only at hSw); go_simp; try with_reducible rfl)
          try simp only [Act.put, List.setIfInBounds_toArray, List.set_cons_zero, List.set_cons_succ]
          refine wpAnyH_take (i := 14) (oi := { dst := some 164, op := Op.move (Operand.tmp 11), type := 39, pos := "ref.go:129", after := #[], guard := none }) (v := .slice (some ⟨gV, 0, none⟩) 8 dv) rfl (by kernel_rfl) (by kernel_rfl) (by kernel_rfl) (fun _ _ _ h => h) (Or.inl ⟨by rfl, ?hy66_14⟩) (by assumption) ?rest66_14
          case hy66_14 => (intro w hSw; (try dsimp only at hSw); go_simp; try with_reducible rfl)
          try simp only [Act.put, List.setIfInBounds_toArray, List.set_cons_zero, List.set_cons_succ]
          refine wpAnyH_take (i := 15) (oi := { dst := some 165, op := Op.indexAddr 39 (Operand.tmp 164) (Operand.const (Value.int IntKind.i64 2)), type := 0, pos := "ref.go:129", after := #[{ on := 14, ground := Ground.data }], guard := none }) (v := .pointer (some ⟨gV, 2, none⟩)) rfl (by kernel_rfl) (by kernel_rfl) (by kernel_rfl) (fun _ _ _ h => h) (Or.inl ⟨by rfl, ?hy66_15⟩) (by assumption) ?rest66_15
          case hy66_15 => (intro w hSw; (try dsimp only at hSw); go_simp; try with_reducible rfl)
          try simp only [Act.put, List.setIfInBounds_toArray, List.set_cons_zero, List.set_cons_succ]
          refine wpAnyH_take (i := 16) (oi := { dst := some 166, op := Op.load 41 (Operand.tmp 165), type := 41, pos := "ref.go:129", after := #[{ on := 15, ground := Ground.data }], guard := none }) (v := .int .u32 (Nc : Int)) rfl (by kernel_rfl) (by kernel_rfl) (by kernel_rfl) (fun _ _ _ h => h) (Or.inl ⟨by rfl, ?hy66_16⟩) (by assumption) ?rest66_16
          case hy66_16 => (intro w1 hSw; have hq := (Below.cell hSw (p := ⟨gV, 2, none⟩) hgV2).trans cc; go_simp; try with_reducible rfl)
          try simp only [Act.put, List.setIfInBounds_toArray, List.set_cons_zero, List.set_cons_succ]
          refine wpAnyH_take (i := 17) (oi := { dst := some 167, op := Op.binOp BinOp.and 41 (Operand.tmp 163) (Operand.tmp 166) 41, type := 41, pos := "ref.go:129", after := #[{ on := 13, ground := Ground.data }, { on := 16, ground := Ground.data }], guard := none }) (v := .int .u32 (N167 : Int)) rfl (by kernel_rfl) (by kernel_rfl) (by kernel_rfl) (fun _ _ _ h => h) (Or.inl ⟨by rfl, ?hy66_17⟩) (by assumption) ?rest66_17
          case hy66_17 => (intro w hSw; (try dsimp only at hSw); go_simp; try with_reducible rfl)
          try simp only [Act.put, List.setIfInBounds_toArray, List.set_cons_zero, List.set_cons_succ]
          refine wpAnyH_take (i := 18) (oi := { dst := some 168, op := Op.binOp BinOp.xor 41 (Operand.tmp 162) (Operand.tmp 167) 41, type := 41, pos := "ref.go:129", after := #[{ on := 12, ground := Ground.data }, { on := 17, ground := Ground.data }], guard := none }) (v := .int .u32 (N168 : Int)) rfl (by kernel_rfl) (by kernel_rfl) (by kernel_rfl) (fun _ _ _ h => h) (Or.inl ⟨by rfl, ?hy66_18⟩) (by assumption) ?rest66_18
          case hy66_18 => (intro w hSw; (try dsimp only at hSw); go_simp; try with_reducible rfl)
          try simp only [Act.put, List.setIfInBounds_toArray, List.set_cons_zero, List.set_cons_succ]
          refine wpAnyH_take (i := 19) (oi := { dst := some 169, op := Op.move (Operand.tmp 11), type := 39, pos := "ref.go:129", after := #[], guard := none }) (v := .slice (some ⟨gV, 0, none⟩) 8 dv) rfl (by kernel_rfl) (by kernel_rfl) (by kernel_rfl) (fun _ _ _ h => h) (Or.inl ⟨by rfl, ?hy66_19⟩) (by assumption) ?rest66_19
          case hy66_19 => (intro w hSw; (try dsimp only at hSw); go_simp; try with_reducible rfl)
          try simp only [Act.put, List.setIfInBounds_toArray, List.set_cons_zero, List.set_cons_succ]
          refine wpAnyH_take (i := 20) (oi := { dst := some 170, op := Op.indexAddr 39 (Operand.tmp 169) (Operand.const (Value.int IntKind.i64 1)), type := 0, pos := "ref.go:129", after := #[{ on := 19, ground := Ground.data }], guard := none }) (v := .pointer (some ⟨gV, 1, none⟩)) rfl (by kernel_rfl) (by kernel_rfl) (by kernel_rfl) (fun _ _ _ h => h) (Or.inl ⟨by rfl, ?hy66_20⟩) (by assumption) ?rest66_20
          case hy66_20 => (intro w hSw; (try dsimp only at hSw); go_simp; try with_reducible rfl)
          try simp only [Act.put, List.setIfInBounds_toArray, List.set_cons_zero, List.set_cons_succ]
          refine wpAnyH_take (i := 21) (oi := { dst := some 171, op := Op.load 41 (Operand.tmp 170), type := 41, pos := "ref.go:129", after := #[{ on := 20, ground := Ground.data }], guard := none }) (v := .int .u32 (Nb : Int)) rfl (by kernel_rfl) (by kernel_rfl) (by kernel_rfl) (fun _ _ _ h => h) (Or.inl ⟨by rfl, ?hy66_21⟩) (by assumption) ?rest66_21
          case hy66_21 => (intro w1 hSw; have hq := (Below.cell hSw (p := ⟨gV, 1, none⟩) hgV2).trans cb; go_simp; try with_reducible rfl)
          try simp only [Act.put, List.setIfInBounds_toArray, List.set_cons_zero, List.set_cons_succ]
          refine wpAnyH_take (i := 22) (oi := { dst := some 172, op := Op.move (Operand.tmp 11), type := 39, pos := "ref.go:129", after := #[], guard := none }) (v := .slice (some ⟨gV, 0, none⟩) 8 dv) rfl (by kernel_rfl) (by kernel_rfl) (by kernel_rfl) (fun _ _ _ h => h) (Or.inl ⟨by rfl, ?hy66_22⟩) (by assumption) ?rest66_22
          case hy66_22 => (intro w hSw; (try dsimp only at hSw); go_simp; try with_reducible rfl)
          try simp only [Act.put, List.setIfInBounds_toArray, List.set_cons_zero, List.set_cons_succ]
          refine wpAnyH_take (i := 23) (oi := { dst := some 173, op := Op.indexAddr 39 (Operand.tmp 172) (Operand.const (Value.int IntKind.i64 2)), type := 0, pos := "ref.go:129", after := #[{ on := 22, ground := Ground.data }], guard := none }) (v := .pointer (some ⟨gV, 2, none⟩)) rfl (by kernel_rfl) (by kernel_rfl) (by kernel_rfl) (fun _ _ _ h => h) (Or.inl ⟨by rfl, ?hy66_23⟩) (by assumption) ?rest66_23
          case hy66_23 => (intro w hSw; (try dsimp only at hSw); go_simp; try with_reducible rfl)
          try simp only [Act.put, List.setIfInBounds_toArray, List.set_cons_zero, List.set_cons_succ]
          refine wpAnyH_take (i := 24) (oi := { dst := some 174, op := Op.load 41 (Operand.tmp 173), type := 41, pos := "ref.go:129", after := #[{ on := 23, ground := Ground.data }], guard := none }) (v := .int .u32 (Nc : Int)) rfl (by kernel_rfl) (by kernel_rfl) (by kernel_rfl) (fun _ _ _ h => h) (Or.inl ⟨by rfl, ?hy66_24⟩) (by assumption) ?rest66_24
          case hy66_24 => (intro w1 hSw; have hq := (Below.cell hSw (p := ⟨gV, 2, none⟩) hgV2).trans cc; go_simp; try with_reducible rfl)
          try simp only [Act.put, List.setIfInBounds_toArray, List.set_cons_zero, List.set_cons_succ]
          refine wpAnyH_take (i := 25) (oi := { dst := some 175, op := Op.binOp BinOp.and 41 (Operand.tmp 171) (Operand.tmp 174) 41, type := 41, pos := "ref.go:129", after := #[{ on := 21, ground := Ground.data }, { on := 24, ground := Ground.data }], guard := none }) (v := .int .u32 (N175 : Int)) rfl (by kernel_rfl) (by kernel_rfl) (by kernel_rfl) (fun _ _ _ h => h) (Or.inl ⟨by rfl, ?hy66_25⟩) (by assumption) ?rest66_25
          case hy66_25 => (intro w hSw; (try dsimp only at hSw); go_simp; try with_reducible rfl)
          try simp only [Act.put, List.setIfInBounds_toArray, List.set_cons_zero, List.set_cons_succ]
          refine wpAnyH_take (i := 26) (oi := { dst := some 176, op := Op.binOp BinOp.xor 41 (Operand.tmp 168) (Operand.tmp 175) 41, type := 41, pos := "ref.go:129", after := #[{ on := 18, ground := Ground.data }, { on := 25, ground := Ground.data }], guard := none }) (v := .int .u32 (N176 : Int)) rfl (by kernel_rfl) (by kernel_rfl) (by kernel_rfl) (fun _ _ _ h => h) (Or.inl ⟨by rfl, ?hy66_26⟩) (by assumption) ?rest66_26
          case hy66_26 => (intro w hSw; (try dsimp only at hSw); go_simp; try with_reducible rfl)
          try simp only [Act.put, List.setIfInBounds_toArray, List.set_cons_zero, List.set_cons_succ]
          refine wpAnyH_ready (rs := [1]) (by kernel_rfl) (by simp) ?_
          refine AllReadyH.cons (o := { dst := some 151, op := Op.call { callee := Callee.value (Operand.func 25), args := #[Operand.tmp 150, Operand.const (Value.int IntKind.u64 2)], argTypes := #[41, 31] }, type := 41, pos := "ref.go:129", after := #[{ on := 0, ground := Ground.data }], guard := none }) rfl (fun K hK => ?_) AllReadyH.nil
          go_simp
          refine (Q151.out _).mono ?_
          rintro e w' ⟨rfl, rfl⟩
          refine hK.out _ _ (by assumption) (fun _ => ?_)
          clear hK K
          try simp only [Act.put, List.setIfInBounds_toArray, List.set_cons_zero, List.set_cons_succ]
          refine wpAnyH_ready (rs := [3]) (by kernel_rfl) (by simp) ?_
          refine AllReadyH.cons (o := { dst := some 153, op := Op.call { callee := Callee.value (Operand.func 25), args := #[Operand.tmp 152, Operand.const (Value.int IntKind.u64 13)], argTypes := #[41, 31] }, type := 41, pos := "ref.go:129", after := #[{ on := 2, ground := Ground.data }, { on := 1, ground := Ground.chain }], guard := none }) rfl (fun K hK => ?_) AllReadyH.nil
          go_simp
          refine (Q153.out _).mono ?_
          rintro e w' ⟨rfl, rfl⟩
          refine hK.out _ _ (by assumption) (fun _ => ?_)
          clear hK K
          try simp only [Act.put, List.setIfInBounds_toArray, List.set_cons_zero, List.set_cons_succ]
          refine wpAnyH_take (i := 4) (oi := { dst := some 154, op := Op.binOp BinOp.xor 41 (Operand.tmp 151) (Operand.tmp 153) 41, type := 41, pos := "ref.go:129", after := #[{ on := 1, ground := Ground.data }, { on := 3, ground := Ground.data }], guard := none }) (v := .int .u32 (N154 : Int)) rfl (by kernel_rfl) (by kernel_rfl) (by kernel_rfl) (fun _ _ _ h => h) (Or.inl ⟨by rfl, ?hy66_4⟩) (by assumption) ?rest66_4
          case hy66_4 => (intro w hSw; (try dsimp only at hSw); go_simp; try with_reducible rfl)
          try simp only [Act.put, List.setIfInBounds_toArray, List.set_cons_zero, List.set_cons_succ]
          refine wpAnyH_ready (rs := [6]) (by kernel_rfl) (by simp) ?_
          refine AllReadyH.cons (o := { dst := some 156, op := Op.call { callee := Callee.value (Operand.func 25), args := #[Operand.tmp 155, Operand.const (Value.int IntKind.u64 22)], argTypes := #[41, 31] }, type := 41, pos := "ref.go:129", after := #[{ on := 5, ground := Ground.data }, { on := 3, ground := Ground.chain }], guard := none }) rfl (fun K hK => ?_) AllReadyH.nil
          go_simp
          refine (Q156.out _).mono ?_
          rintro e w' ⟨rfl, rfl⟩
          refine hK.out _ _ (by assumption) (fun _ => ?_)
          clear hK K
          try simp only [Act.put, List.setIfInBounds_toArray, List.set_cons_zero, List.set_cons_succ]
          refine wpAnyH_take (i := 7) (oi := { dst := some 157, op := Op.binOp BinOp.xor 41 (Operand.tmp 154) (Operand.tmp 156) 41, type := 41, pos := "ref.go:129", after := #[{ on := 4, ground := Ground.data }, { on := 6, ground := Ground.data }], guard := none }) (v := .int .u32 (N157 : Int)) rfl (by kernel_rfl) (by kernel_rfl) (by kernel_rfl) (fun _ _ _ h => h) (Or.inl ⟨by rfl, ?hy66_7⟩) (by assumption) ?rest66_7
          case hy66_7 => (intro w hSw; (try dsimp only at hSw); go_simp; try with_reducible rfl)
          try simp only [Act.put, List.setIfInBounds_toArray, List.set_cons_zero, List.set_cons_succ]
          refine wpAnyH_take (i := 27) (oi := { dst := some 177, op := Op.binOp BinOp.add 41 (Operand.tmp 157) (Operand.tmp 176) 41, type := 41, pos := "ref.go:129", after := #[{ on := 7, ground := Ground.data }, { on := 26, ground := Ground.data }], guard := none }) (v := .int .u32 (N177 : Int)) rfl (by kernel_rfl) (by kernel_rfl) (by kernel_rfl) (fun _ _ _ h => h) (Or.inl ⟨by rfl, ?hy66_27⟩) (by assumption) ?rest66_27
          case hy66_27 => (intro w hSw; (try dsimp only at hSw); go_simp; try with_reducible rfl)
          try simp only [Act.put, List.setIfInBounds_toArray, List.set_cons_zero, List.set_cons_succ]
          refine wpAnyH_take (i := 28) (oi := { dst := some 16, op := Op.assign (Operand.tmp 177), type := 41, pos := "ref.go:129", after := #[{ on := 27, ground := Ground.data }, { on := 6, ground := Ground.chain }, { on := 0, ground := Ground.phase }, { on := 1, ground := Ground.phase }, { on := 2, ground := Ground.phase }, { on := 3, ground := Ground.phase }, { on := 4, ground := Ground.phase }, { on := 5, ground := Ground.phase }, { on := 6, ground := Ground.phase }, { on := 7, ground := Ground.phase }, { on := 8, ground := Ground.phase }, { on := 9, ground := Ground.phase }, { on := 10, ground := Ground.phase }, { on := 11, ground := Ground.phase }, { on := 12, ground := Ground.phase }, { on := 13, ground := Ground.phase }, { on := 14, ground := Ground.phase }, { on := 15, ground := Ground.phase }, { on := 16, ground := Ground.phase }, { on := 17, ground := Ground.phase }, { on := 18, ground := Ground.phase }, { on := 19, ground := Ground.phase }, { on := 20, ground := Ground.phase }, { on := 21, ground := Ground.phase }, { on := 22, ground := Ground.phase }, { on := 23, ground := Ground.phase }, { on := 24, ground := Ground.phase }, { on := 25, ground := Ground.phase }, { on := 26, ground := Ground.phase }, { on := 27, ground := Ground.phase }], guard := none }) (v := .int .u32 (N177 : Int)) rfl (by kernel_rfl) (by kernel_rfl) (by kernel_rfl) (fun _ _ _ h => h) (Or.inl ⟨by rfl, ?hy66_28⟩) (by assumption) ?rest66_28
          case hy66_28 => (intro w hSw; (try dsimp only at hSw); go_simp; try with_reducible rfl)
          try simp only [Act.put, List.setIfInBounds_toArray, List.set_cons_zero, List.set_cons_succ]
          refine wpAnyH_done (by kernel_rfl) ?_ _
          clear f154 f157 f162 f167 f168 f175 f176 f177
          have hlow : low R K X = R.h + (rr R.e 6 ^^^ rr R.e 11 ^^^ rr R.e 25) + (R.e &&& R.f ^^^ ~~~R.e &&& R.g) + K + X := rfl
          have hhigh : high R = (rr R.a 2 ^^^ rr R.a 13 ^^^ rr R.a 22) + (R.a &&& R.b ^^^ R.a &&& R.c ^^^ R.b &&& R.c) := rfl
          have hLow1 : (low R K X).toNat = N149 := by rw [hlow]; exact hN149
          have hHigh1 : (high R).toNat = N177 := by rw [hhigh]; exact hN177
          obtain ⟨N180, hN180⟩ : ∃ z, (low R K X + high R).toNat = z := ⟨_, rfl⟩
          obtain ⟨N190, hN190⟩ : ∃ z, (R.d + low R K X).toNat = z := ⟨_, rfl⟩
          have f180 : ((N149 : Int) + (N177 : Int)) % 4294967296 = (N180 : Int) := by rw [← hLow1, ← hHigh1, ← hN180]; exact add_w _ _
          have f190 : ((Nd : Int) + (N149 : Int)) % 4294967296 = (N190 : Int) := by rw [← hNd, ← hLow1, ← hN190]; exact add_w _ _
          have hdv7 : ¬ (dv : Int) < 7 := by omega
          have hdv7b : (7 : Int) ≤ (dv : Int) := by omega
          have hv7 : Rd wq wq.heap.size (some ⟨gV, 0, none⟩) 7 (((wvs (stL R)).drop 0).take 7) := HO.out.rd.cut (l := 0) (m := 7) (by omega) (fun _ => rfl)
          have hXb : Below wq.heap.size wq (wq.alloc (.cells #[.int .u32 (N180 : Int)] 41)) := (Below.refl _ _).alloc (Nat.le_refl _) _
          have hlit := Ow.lit1 wq 41 (.int .u32 (N180 : Int)) (base := wo.heap.size) (Nat.le_trans hbv.size HS.out.size)
          have HG := Lib.hid (⟨hNa, hNb, hNc, hNe, hNf, hNg, hN180, hN190⟩ : R.a.toNat = Na ∧ R.b.toNat = Nb ∧ R.c.toNat = Nc ∧ R.e.toNat = Ne ∧ R.f.toNat = Nf ∧ R.g.toNat = Ng ∧ (low R K X + high R).toNat = N180 ∧ (R.d + low R K X).toNat = N190)
          clear hlow hhigh hLow1 hHigh1 hNd hNa hNb hNc hNe hNf hNg hNh hN180 hN190
          go_upto_region 18 with (at_builtin; refine wp_app u32tyB rfl (.tmp 181) (.tmp 183) rfl rfl rfl hlit (hv7.below hXb (Nat.le_refl _)) (by intro u hu; exact wvs_one _ u (List.mem_of_mem_drop (List.mem_of_mem_take hu))) (by omega) (by omega) (by have := hbv.size; have := HS.out.size; simp; omega) ?_; intro A5 N5 d5 w5 ho5 hN5 hb5 hg5)
          have hN58 : N5 = 8 := by have := ho5.len; simpa [wvs, stL] using this.symm
          subst hN58
          rw [show [Value.int IntKind.u32 (N180 : Int)] ++ ((wvs (stL R)).drop 0).take 7 = [.int .u32 (N180 : Int), wv R.a, wv R.b, wv R.c, wv R.d, wv R.e, wv R.f, wv R.g] from rfl] at ho5
          obtain ⟨g5, rfl, hg51, hg52⟩ := ho5.at0 (by omega)
          have hs5 := ho5.set 4 (.int .u32 (N190 : Int)) (by omega)
          have c54 := hs5.2.2.1
          have z54 := hs5.2.2.2
          have hHd : wv R.d = .int .u32 (Nd : Int) := by unfold wv; rw [hNdk]
          rw [show ([Value.int IntKind.u32 (N180 : Int), wv R.a, wv R.b, wv R.c, wv R.d, wv R.e, wv R.f, wv R.g])[4]? = some (wv R.d) from rfl, hHd] at c54
          have hnew : ([Value.int IntKind.u32 (N180 : Int), wv R.a, wv R.b, wv R.c, wv R.d, wv R.e, wv R.f, wv R.g]).set 4 (.int .u32 (N190 : Int)) = wvs (stL (roundsN st cubes (wordsN L 64) (t + 1))) := by
            rw [HRN.out]
            show [Value.int IntKind.u32 (N180 : Int), wv R.a, wv R.b, wv R.c, .int .u32 (N190 : Int), wv R.e, wv R.f, wv R.g] = _
            rw [← HG.out.2.2.2.2.2.2.1, ← HG.out.2.2.2.2.2.2.2]
            rfl
          have ho6 := hs5.1
          rw [hnew] at ho6
          have hb6 : Below wo.heap.size wo (w5.setCell ⟨g5, 4, none⟩ (.int .u32 (N190 : Int))) := by
            have h1 : Below wo.heap.size wo w5 := ((hbv.trans (HS.out.mono hbv.size)).trans (hXb.mono (Nat.le_trans hbv.size HS.out.size))).trans hb5
            exact (Keep1.set w5 g5 4 _).below h1 (Nat.le_of_lt (Nat.lt_of_le_of_lt hg51 hg52)) hg51
          have H6 := Lib.hid (And.intro ho6 hb6)
          clear ho5 hs5 hnew ho6 hb6 hHd hb5 hg5 hlit hv7
          go_wp2_with fail
          exact ⟨⟨t + 1, _, d5, rfl, by go_num, by omega, H6⟩, by simp [intOf]; omega⟩
        · obtain rfl : t = 64 := by omega
          have k64v : ¬ ((64 : Nat) : Int) < 64 := by omega
          obtain ⟨w2, hw2⟩ : ∃ z, z = wr := ⟨_, rfl⟩
          subst hw2
          have HM : Hid (Ow w2 wo.heap.size 41 Av 8 dv (wvs (stL (roundsN st cubes (wordsN L 64) 64))) ∧ Below w.heap.size w w2) := Lib.hid ⟨HV.out.1, HRW.out.2.trans (HV.out.2.mono HRW.out.2.size)⟩
          go_wp2_with fail
          go_loopw [17, 193] (fun v i wr => ∃ (j : Nat) (A : Option Addr) (d : Nat), v = .slice A j d ∧ i = .int .i64 (j : Int) ∧ j ≤ 8 ∧ Hid (Ow wr w2.heap.size 41 A j d (wvs ((stL (mixed st (wordsN L 64))).take j)) ∧ Below w2.heap.size w2 wr)) (fun _ i _ => 8 - (intOf i).toNat)
          case atStart => exact ⟨0, none, 0, rfl, rfl, by omega, Lib.hid ⟨Ow.nil _ _ _, Below.refl _ _⟩⟩
          case round =>
            obtain ⟨j, Ao, do_, rfl, rfl, hj, HN⟩ := hrel
            by_cases hj8 : j < 8
            · have k8 : (j : Int) < 8 := by omega
              have hsd := H.out.1.below (HM.out.2.trans (HN.out.2.mono HM.out.2.size)) hB
              have hvd := HM.out.1.rd.below HN.out.2 (Nat.le_refl _)
              obtain ⟨bs0, os0, rfl, hbs, hcs⟩ := hsd.at_ hj8
              obtain ⟨bv0, ov0, rfl, hbv2, hcv⟩ := hvd.at_ hj8
              rw [wvs_at (stL st) j hj8] at hcs
              rw [wvs_at (stL (roundsN st cubes (wordsN L 64) 64)) j hj8] at hcv
              have hmx : (stL (mixed st (wordsN L 64))).take (j + 1) = (stL (mixed st (wordsN L 64))).take j ++ [(stL st).getD j 0 + (stL (roundsN st cubes (wordsN L 64) 64)).getD j 0] := mixed_at st (wordsN L 64) j hj8
              obtain ⟨xs, hxs⟩ : ∃ x, (stL st).getD j 0 = x := ⟨_, rfl⟩
              obtain ⟨xv, hxv⟩ : ∃ x, (stL (roundsN st cubes (wordsN L 64) 64)).getD j 0 = x := ⟨_, rfl⟩
              rw [hxs] at hcs hmx
              rw [hxv] at hcv hmx
              unfold wv at hcs hcv
              obtain ⟨Ns, hNs⟩ : ∃ z, xs.toNat = z := ⟨_, rfl⟩
              obtain ⟨Nv, hNv⟩ : ∃ z, xv.toNat = z := ⟨_, rfl⟩
              obtain ⟨Nz, hNz⟩ : ∃ z, (xs + xv).toNat = z := ⟨_, rfl⟩
              rw [hNs] at hcs
              rw [hNv] at hcv
              have fz : IntKind.u32.wrap ((Ns : Int) + (Nv : Int)) = (Nz : Int) := by rw [← hNs, ← hNv, ← hNz, wrap_u32]; exact add_w _ _
              have HMX := Lib.hid hmx
              have hbsr : bs0 < w2.heap.size := by have := HM.out.2.size; omega
              have hbs2 : w2.cell? ⟨bs0, os0 + j, none⟩ = some (.int .u32 (Ns : Int)) := by rw [← hcs]; exact (HN.out.2.cell (p := ⟨bs0, os0 + j, none⟩) hbsr).symm
              have hcv2 : w2.cell? ⟨bv0, ov0 + j, none⟩ = some (.int .u32 (Nv : Int)) := by rw [← hcv]; exact (HN.out.2.cell (p := ⟨bv0, ov0 + j, none⟩) hbv2).symm
              clear hcs hcv hmx hxs hxv hNs hNv hsd hvd
              go_upto_region 24 with fail
              have hdq := (HN.out.1).drew
              have hS0 : Below w2.heap.size w2 wr.drew := below_drew' HN.out.2
              obtain ⟨wq, hwq⟩ : ∃ z, wr.drew = z := ⟨_, rfl⟩
              refine wp_region_held_drew (S := fun y => Below w2.heap.size w2 y) (by kernel_rfl) hS0 (fun hHeld => ?_)
              rw [hwq] at hHeld hS0 hdq ⊢
              have HS := Lib.hid hS0
              have HO := Lib.hid hdq
              have HOq := HO
              clear hwq hS0 hdq
              refine wpAnyH_take (i := 0) (oi := { dst := some 196, op := Op.move (Operand.tmp 17), type := 39, pos := "ref.go:135", after := #[], guard := none }) (v := .slice Ao j do_) rfl (by kernel_rfl) (by kernel_rfl) (by kernel_rfl) (fun _ _ _ h => h) (Or.inl ⟨by rfl, ?hy77_0⟩) (by assumption) ?rest77_0
              case hy77_0 => (intro w hSw; (try dsimp only at hSw); go_simp; try with_reducible rfl)
              try simp only [Act.put, List.setIfInBounds_toArray, List.set_cons_zero, List.set_cons_succ]
              refine wpAnyH_take (i := 1) (oi := { dst := some 197, op := Op.move (Operand.tmp 0), type := 39, pos := "ref.go:135", after := #[], guard := none }) (v := .slice (some ⟨bs0, os0, none⟩) 8 c0) rfl (by kernel_rfl) (by kernel_rfl) (by kernel_rfl) (fun _ _ _ h => h) (Or.inl ⟨by rfl, ?hy77_1⟩) (by assumption) ?rest77_1
              case hy77_1 => (intro w hSw; (try dsimp only at hSw); go_simp; try with_reducible rfl)
              try simp only [Act.put, List.setIfInBounds_toArray, List.set_cons_zero, List.set_cons_succ]
              refine wpAnyH_take (i := 2) (oi := { dst := some 198, op := Op.move (Operand.tmp 18), type := 3, pos := "ref.go:135", after := #[], guard := none }) (v := .int .i64 (j : Int)) rfl (by kernel_rfl) (by kernel_rfl) (by kernel_rfl) (fun _ _ _ h => h) (Or.inl ⟨by rfl, ?hy77_2⟩) (by assumption) ?rest77_2
              case hy77_2 => (intro w hSw; (try dsimp only at hSw); go_simp; try with_reducible rfl)
              try simp only [Act.put, List.setIfInBounds_toArray, List.set_cons_zero, List.set_cons_succ]
              refine wpAnyH_take (i := 3) (oi := { dst := some 199, op := Op.indexAddr 39 (Operand.tmp 197) (Operand.tmp 198), type := 0, pos := "ref.go:135", after := #[{ on := 1, ground := Ground.data }, { on := 2, ground := Ground.data }], guard := none }) (v := .pointer (some ⟨bs0, os0 + j, none⟩)) rfl (by kernel_rfl) (by kernel_rfl) (by kernel_rfl) (fun _ _ _ h => h) (Or.inl ⟨by rfl, ?hy77_3⟩) (by assumption) ?rest77_3
              case hy77_3 => (intro w hSw; (try dsimp only at hSw); go_simp; try with_reducible rfl)
              try simp only [Act.put, List.setIfInBounds_toArray, List.set_cons_zero, List.set_cons_succ]
              refine wpAnyH_take (i := 4) (oi := { dst := some 200, op := Op.load 41 (Operand.tmp 199), type := 41, pos := "ref.go:135", after := #[{ on := 3, ground := Ground.data }], guard := none }) (v := .int .u32 (Ns : Int)) rfl (by kernel_rfl) (by kernel_rfl) (by kernel_rfl) (fun _ _ _ h => h) (Or.inl ⟨by rfl, ?hy77_4⟩) (by assumption) ?rest77_4
              case hy77_4 => (intro w1 hSw; have hq := (Below.cell hSw (p := ⟨bs0, os0 + j, none⟩) hbsr).trans hbs2; go_simp; try with_reducible rfl)
              try simp only [Act.put, List.setIfInBounds_toArray, List.set_cons_zero, List.set_cons_succ]
              refine wpAnyH_take (i := 5) (oi := { dst := some 201, op := Op.move (Operand.tmp 11), type := 39, pos := "ref.go:135", after := #[], guard := none }) (v := .slice (some ⟨bv0, ov0, none⟩) 8 dv) rfl (by kernel_rfl) (by kernel_rfl) (by kernel_rfl) (fun _ _ _ h => h) (Or.inl ⟨by rfl, ?hy77_5⟩) (by assumption) ?rest77_5
              case hy77_5 => (intro w hSw; (try dsimp only at hSw); go_simp; try with_reducible rfl)
              try simp only [Act.put, List.setIfInBounds_toArray, List.set_cons_zero, List.set_cons_succ]
              refine wpAnyH_take (i := 6) (oi := { dst := some 202, op := Op.move (Operand.tmp 18), type := 3, pos := "ref.go:135", after := #[], guard := none }) (v := .int .i64 (j : Int)) rfl (by kernel_rfl) (by kernel_rfl) (by kernel_rfl) (fun _ _ _ h => h) (Or.inl ⟨by rfl, ?hy77_6⟩) (by assumption) ?rest77_6
              case hy77_6 => (intro w hSw; (try dsimp only at hSw); go_simp; try with_reducible rfl)
              try simp only [Act.put, List.setIfInBounds_toArray, List.set_cons_zero, List.set_cons_succ]
              refine wpAnyH_take (i := 7) (oi := { dst := some 203, op := Op.indexAddr 39 (Operand.tmp 201) (Operand.tmp 202), type := 0, pos := "ref.go:135", after := #[{ on := 5, ground := Ground.data }, { on := 6, ground := Ground.data }], guard := none }) (v := .pointer (some ⟨bv0, ov0 + j, none⟩)) rfl (by kernel_rfl) (by kernel_rfl) (by kernel_rfl) (fun _ _ _ h => h) (Or.inl ⟨by rfl, ?hy77_7⟩) (by assumption) ?rest77_7
              case hy77_7 => (intro w hSw; (try dsimp only at hSw); go_simp; try with_reducible rfl)
              try simp only [Act.put, List.setIfInBounds_toArray, List.set_cons_zero, List.set_cons_succ]
              refine wpAnyH_take (i := 8) (oi := { dst := some 204, op := Op.load 41 (Operand.tmp 203), type := 41, pos := "ref.go:135", after := #[{ on := 7, ground := Ground.data }], guard := none }) (v := .int .u32 (Nv : Int)) rfl (by kernel_rfl) (by kernel_rfl) (by kernel_rfl) (fun _ _ _ h => h) (Or.inl ⟨by rfl, ?hy77_8⟩) (by assumption) ?rest77_8
              case hy77_8 => (intro w1 hSw; have hq := (Below.cell hSw (p := ⟨bv0, ov0 + j, none⟩) hbv2).trans hcv2; go_simp; try with_reducible rfl)
              try simp only [Act.put, List.setIfInBounds_toArray, List.set_cons_zero, List.set_cons_succ]
              refine wpAnyH_take (i := 9) (oi := { dst := some 205, op := Op.binOp BinOp.add 41 (Operand.tmp 200) (Operand.tmp 204) 41, type := 41, pos := "ref.go:135", after := #[{ on := 4, ground := Ground.data }, { on := 8, ground := Ground.data }], guard := none }) (v := .int .u32 (Nz : Int)) rfl (by kernel_rfl) (by kernel_rfl) (by kernel_rfl) (fun _ _ _ h => h) (Or.inl ⟨by rfl, ?hy77_9⟩) (by assumption) ?rest77_9
              case hy77_9 => (intro w hSw; (try dsimp only at hSw); go_simp; try with_reducible rfl)
              try simp only [Act.put, List.setIfInBounds_toArray, List.set_cons_zero, List.set_cons_succ]
              refine wpAnyH_ready (rs := [10]) (by kernel_rfl) (by simp) ?_
              refine AllReadyH.cons (o := { dst := some 206, op := Op.buildSlice 39 1 #[(0, Operand.tmp 205)], type := 39, pos := "ref.go:135", after := #[{ on := 9, ground := Ground.data }], guard := none }) rfl (fun K hK => ?_) AllReadyH.nil
              refine (if_pos (by rfl)).mpr ?_
              unfold Oper.wp
              go_simp
              have hV0 := (Below.alloc HS.out HS.out.size (.cells #[.int .u32 (Nz : Int)] 41) : Below w2.heap.size w2 _)
              refine hK.out _ _ hV0 (fun _ => ?_)
              clear hK K
              try simp only [Act.put, List.setIfInBounds_toArray, List.set_cons_zero, List.set_cons_succ]
              refine wpAnyH_ready (rs := [11]) (by kernel_rfl) (by simp) ?_
              refine AllReadyH.cons (o := { dst := some 207, op := Op.call { callee := Callee.builtin Builtin.append, args := #[Operand.tmp 196, Operand.tmp 206], argTypes := #[39, 39] }, type := 39, pos := "ref.go:135", after := #[{ on := 0, ground := Ground.data }, { on := 10, ground := Ground.data }], guard := none }) rfl (fun K hK => ?_) AllReadyH.nil
              refine step_app u32tyB rfl (.tmp 196) (.tmp 206) rfl rfl rfl ((HO.out).alloc _) (Rd.one _ _ _) (one1 rfl) (by omega) (by omega) (by simp; have := (HS.out).size; omega) ?_
              intro A3 n3 d3 w3 ho3 hn3 hb3 hg3
              have hb33 := hV0.trans hb3
              refine hK.out _ _ hb33 (fun _ => ?_)
              clear hK K
              try simp only [Act.put, List.setIfInBounds_toArray, List.set_cons_zero, List.set_cons_succ]
              refine wpAnyH_take (i := 12) (oi := { dst := some 17, op := Op.assign (Operand.tmp 207), type := 39, pos := "ref.go:135", after := #[{ on := 11, ground := Ground.data }, { on := 11, ground := Ground.chain }, { on := 0, ground := Ground.phase }, { on := 1, ground := Ground.phase }, { on := 2, ground := Ground.phase }, { on := 3, ground := Ground.phase }, { on := 4, ground := Ground.phase }, { on := 5, ground := Ground.phase }, { on := 6, ground := Ground.phase }, { on := 7, ground := Ground.phase }, { on := 8, ground := Ground.phase }, { on := 9, ground := Ground.phase }, { on := 10, ground := Ground.phase }, { on := 11, ground := Ground.phase }], guard := none }) (v := .slice A3 n3 d3) rfl (by kernel_rfl) (by kernel_rfl) (by kernel_rfl) (fun _ _ _ h => h) (Or.inl ⟨by rfl, ?hy77_12⟩) (by assumption) ?rest77_12
              case hy77_12 => (intro w hSw; (try dsimp only at hSw); go_simp; try with_reducible rfl)
              try simp only [Act.put, List.setIfInBounds_toArray, List.set_cons_zero, List.set_cons_succ]
              refine wpAnyH_done (by kernel_rfl) ?_ _
              clear fz hbs2 hcv2
              go_wp2_with fail
              have hn3t : n3 = j + 1 := by have := ho3.len; simp [wvs, stL] at this; omega
              subst hn3t
              have hwn : wvs ((stL (mixed st (wordsN L 64))).take (j + 1)) = wvs ((stL (mixed st (wordsN L 64))).take j) ++ [.int .u32 (Nz : Int)] := by
                rw [HMX.out, ← hNz]
                simp [wvs, wv]
              rw [← hwn] at ho3
              exact ⟨⟨j + 1, A3, d3, rfl, by go_num, by omega, Lib.hid ⟨ho3, hb33⟩⟩, by simp [intOf]; omega⟩
            · obtain rfl : j = 8 := by omega
              have k8n : ¬ ((8 : Nat) : Int) < 8 := by omega
              go_wp2_with fail
              go_ret
              exact ⟨Ao, do_, rfl, HN.out.1.base HM.out.2.size, HM.out.2.trans (HN.out.2.mono HM.out.2.size)⟩
end Go.Proofs.YtagomegeeijfnaaDoor.dg
