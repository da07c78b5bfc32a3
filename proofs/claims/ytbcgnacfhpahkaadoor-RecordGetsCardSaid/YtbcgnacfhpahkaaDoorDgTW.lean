/- DgT, DgU, DgV, DgW in one. -/
import Derived.Test.YtbcgnacfhpahkaaDoorDgD
import Derived.Test.YtbcgnacfhpahkaaDoorDgH
import Derived.Test.YtbcgnacfhpahkaaDoorDgI
namespace Go.Proofs.YtbcgnacfhpahkaaDoor.dg
open Go.RowKit Mem DM
set_option linter.unusedVariables false
theorem refRotr_any (x : UInt32) (n : Nat) (h1 : 1 ≤ n) (h2 : n ≤ 31) (w : World) :
    Calls Tryd.prog 93 #[wv x, .int .u64 (n : Int)] w fun e w' => e = .returned (wv (rr x n)) ∧ w = w' := by
  have hx := x.toNat_lt
  have hr := rr_nat x n h1 h2
  have ha : (x.toNat * 2 ^ (32 - n)) % 4294967296 < 4294967296 := Nat.mod_lt _ (by decide)
  have hb : x.toNat / 2 ^ n < 4294967296 := Nat.lt_of_le_of_lt (Nat.div_le_self _ _) hx
  have ho := u32_or_nat _ _ hb ha
  rw [Nat.or_comm, ← hr] at ho
  unfold wv
  obtain ⟨X, hX⟩ : ∃ X, x.toNat = X := ⟨_, rfl⟩
  obtain ⟨Y, hY⟩ : ∃ Y, (rr x n).toNat = Y := ⟨_, rfl⟩
  rw [hX] at ho hx ⊢
  rw [hY] at ho ⊢
  have HO := Lib.hid ho
  have hs : IntKind.u64.wrap (32 - (n : Int)) = ((32 - n : Nat) : Int) := by
    have key : ∀ n : Fin 31, IntKind.u64.wrap (32 - ((n.val + 1 : Nat) : Int)) = ((32 - (n.val + 1) : Nat) : Int) := by decide +kernel
    have := key ⟨n - 1, by omega⟩
    simp only at this
    rw [show n - 1 + 1 = n by omega] at this
    exact this
  clear ho hr ha hb hX hY
  go_enter Tryd.func93, Tryd.ntmps93
  go_wp2_with fail
  go_ret
  have ho := HO.out
  have e1 : (((X * 2 ^ (32 - n)) % 4294967296 : Nat) : Int) = (X : Int) * 2 ^ (32 - n) % 4294967296 := by rw [Int.natCast_emod, Int.natCast_mul, Int.natCast_pow]; rfl
  have e2 : ((X / 2 ^ n : Nat) : Int) = (X : Int) / 2 ^ n := by rw [Int.natCast_ediv, Int.natCast_pow]; rfl
  rw [e1, e2] at ho
  exact ⟨congrArg (fun z => Ending.returned (Value.int IntKind.u32 z)) ho, rfl⟩
/-- append onto a row that is there: the row's elder place shows what it showed -/
theorem run_app_keep {P : Program} {w : World} {T E : TypeId} {z : Value} {bytes : Nat} (ty : Ty1 P T E z bytes) (rt : TypeId) {base B g n c : Nat} {xs : List Value} (hown : Ow w base E (some ⟨g, 0, none⟩) n c xs)
    {A2 : Option Addr} {m c2 : Nat} {ys : List Value} (hr : Rd w B A2 m ys) (h1 : ∀ u ∈ ys, u.oneCell' = true) (hb : (n + m) * bytes ≤ 140737488355328) (h63 : n + m ≤ 9223372036854775807) (hbase : base ≤ w.heap.size) (hm : 0 < m) :
    ∃ A' N c' w', (Builtin.append_ #[T, T] rt #[.slice (some ⟨g, 0, none⟩) n c, .slice A2 m c2]).run P w = .ok (.slice A' N c') w' ∧ N = n + m ∧ Ow w' base E A' N c' (xs ++ ys) ∧ w.grownBy w' (some g) ∧
      (blk A' = some g ∨ blk A' = some w.heap.size) ∧ ∀ j, j < n → w'.cell? ⟨g, j, none⟩ = xs[j]? := by
  obtain ⟨A', N, c', w', hrun, hN, h2, h3, h4⟩ := run_app (P := P) (c2 := c2) ty rt hown hr h1 hb h63 hbase
  have hlt := hown.blk_lt g rfl
  have hx : ∀ j, j < n → ∀ u, xs[j]? = some u → w.cell? ⟨g, j, none⟩ = some u := fun j hj u hu => by
    have := World.ownsRow.cells hown (g := g) rfl j u hu
    rwa [Addr.add_lit, Nat.zero_add] at this
  refine ⟨A', N, c', w', hrun, hN, h2, h3, h4, fun j hj => ?_⟩
  have hjx : j < xs.length := by rw [hown.len]; exact hj
  rw [List.getElem?_eq_getElem hjx]
  have hold := hx j hj _ (List.getElem?_eq_getElem hjx)
  rcases h4 with e | e
  · cases A' with
    | none => simp [blk] at e
    | some a =>
      have ha : a.block = g := by simpa [blk] using e
      obtain ⟨g2, e2, h5⟩ : ∃ g2, some a = some ⟨g2, 0, none⟩ ∧ g2 < w'.heap.size := by
        obtain ⟨g2, e2, _, h5⟩ := h2.at0 (by omega)
        exact ⟨g2, e2, h5⟩
      injection e2 with e2
      subst e2
      simp only at ha
      subst ha
      have := World.ownsRow.cells h2 (g := g2) rfl j xs[j] (by rw [List.getElem?_append_left hjx]; exact List.getElem?_eq_getElem hjx)
      rwa [Addr.add_lit, Nat.zero_add] at this
  · obtain ⟨i, hi, hz, hsz, hby⟩ := ty.hi
    obtain ⟨b, off, rfl, hbl, hc⟩ := hr.addr hm
    have hnews : ∀ j u, ys[j]? = some u → w.cell? ((⟨b, off, none⟩ : Addr).add j) = some u := fun j u hu => by
      have hj : j < ys.length := (List.getElem?_eq_some_iff.1 hu).1
      rw [Addr.add_lit]
      exact (hc j (by rw [← hr.len]; exact hj)).trans hu
    have hl : ys.length = m * i.size := by rw [hr.len, hsz]; omega
    by_cases hroom : n + m ≤ c
    · exfalso
      rcases hown.2 with ⟨e0, _⟩ | ⟨g3, cap, cur, e0, hbg, hg, hnc, hcm, hcs, htake⟩
      · cases e0
      · injection e0 with e1 _ e3
        injection e1 with e1
        injection e1 with e1
        subst e1 e3
        have hfit : n * i.size + ys.length ≤ cur.size := by rw [hl, hcs, hsz]; omega
        have hr2 := run_append_room (P := P) w T rt E i ty.ht hi g n c cur hg ⟨b, off, none⟩ m c2 ys hl hnews h1 hroom hfit
        rw [hrun] at hr2
        injection hr2 with hr2
        injection hr2 with hr2
        subst hr2
        simp [blk] at e
        omega
    · have holds : ∀ j u, xs[j]? = some u → w.cell? ((⟨g, 0, none⟩ : Addr).add j) = some u := hown.cells (g := g) rfl
      have hlo : xs.length = n * i.size := by rw [hown.len, hsz, Nat.mul_one]
      have hr2 := run_append_grow (P := P) w T rt E i z ty.ht hi hz ⟨g, 0, none⟩ n c xs hlo holds ⟨b, off, none⟩ m c2 ys hl hnews (by omega) (by omega) (growslice_fits (by omega) (by rw [hby]; exact hb))
      rw [hrun] at hr2
      injection hr2 with _ hr3
      subst hr3
      exact (World.cell?_of_block (w := w) (Below.heap_alloc w.drew _ g hlt.2)).trans hold
theorem step_app_keep {P : Program} {w : World} {ops : Array Oper} {o : Oper} {a : Act} {K : Act → World → Prop} {Q : Exit → Act → World → Prop} {F : Prop} {T E : TypeId} {z : Value} {bytes : Nat} (ty : Ty1 P T E z bytes) (hgd : o.guard = none) (s x : Operand)
    (ho : o.op = .call { callee := .builtin .append, args := #[s, x], argTypes := #[T, T] })
    {base B g n c : Nat} {xs : List Value} {A2 : Option Addr} {m c2 : Nat} {ys : List Value} (hs : a.eval s = .slice (some ⟨g, 0, none⟩) n c) (hx : a.eval x = .slice A2 m c2) (hown : Ow w base E (some ⟨g, 0, none⟩) n c xs)
    (hr : Rd w B A2 m ys) (h1 : ∀ u ∈ ys, u.oneCell' = true) (hb : (n + m) * bytes ≤ 140737488355328) (h63 : n + m ≤ 9223372036854775807) (hbase : base ≤ w.heap.size) (hm : 0 < m)
    (h : ∀ A' N c' w', Ow w' base E A' N c' (xs ++ ys) → N = n + m → Below base w w' → (∀ j, j < n → w'.cell? ⟨g, j, none⟩ = xs[j]?) → K (a.put o.dst (.slice A' N c')) w') :
    if Region.wanted o (yielded ops a.tmps) = true then Oper.wp P o a w K Q else F := by
  have hw : Region.wanted o (yielded ops a.tmps) = true := by simp [Region.wanted, hgd]
  rw [if_pos hw]
  obtain ⟨A', N, c', w', hrun, e, h2, h3, _, h4⟩ := run_app_keep (P := P) ty o.type (c2 := c2) hown hr h1 hb h63 hbase hm
  unfold Oper.wp execOp
  simp only [ho, resolve, invoke, builtin, Sem.run_bind, Sem.run_pure, Result.andThen_ok, List.map_toArray, List.map_cons, List.map_nil, hs, hx, hrun]
  exact h A' N c' w' h2 e (below_of_grown h3 hbase fun k hk => by injection hk with hk; subst hk; exact (hown.blk_lt _ rfl).1) h4
end Go.Proofs.YtbcgnacfhpahkaaDoor.dg
namespace Go.Proofs.YtbcgnacfhpahkaaDoor.dg
open Go.RowKit Mem DM
set_option linter.unusedVariables false
set_option linter.unusedSimpArgs false
theorem u32tyB : Ty1 Tryd.prog 97 96 (.int .u32 0) 4 :=
  ⟨Tryd.underlying97, by
    have h : (Tryd.prog.info? 96).map (fun i => (i.zero, i.size, i.bytes)) = some (some (.int .u32 0), 1, 4) := by kernel_rfl
    obtain ⟨i, h1, h2, h3, h4⟩ := info_parts h
    exact ⟨i, h1, h2, h3, h4⟩, rfl⟩
theorem below_drew' {B : Nat} {w w' : World} (h : Below B w w') : Below B w w'.drew := ⟨h.os, h.tape, h.output, h.size, h.block⟩
theorem below_app {B : Nat} {w w1 w2 w3 : World} {A A' : Option Addr} (h : Below w.heap.size w w1) (hg : Grew w1 w3 A A') (hA : ∀ k, blk A = some k → w.heap.size ≤ k) : Below w.heap.size w w3 := h.trans (hg.below h.size hA)
theorem word_val (b : List UInt8) (t : Nat) (h : 4 * t + 3 < b.length) (x0 x1 x2 x3 : UInt8) (h0 : b[4 * t]? = some x0) (h1 : b[4 * t + 1]? = some x1) (h2 : b[4 * t + 2]? = some x2) (h3 : b[4 * t + 3]? = some x3) :
    (word b t).toNat = x0.toNat * 16777216 + x1.toNat * 65536 + x2.toNat * 256 + x3.toNat := by
  have e : (b.drop (4 * t)).take 4 = [x0, x1, x2, x3] := by
    refine List.ext_getElem? fun i => ?_
    match i with
    | 0 => simp [List.getElem?_drop, h0]
    | 1 => simp [List.getElem?_drop, h1]
    | 2 => simp [List.getElem?_drop, h2]
    | 3 => simp [List.getElem?_drop, h3]
    | i + 4 => rw [List.getElem?_eq_none (by simp; omega), List.getElem?_eq_none (by simp)]
  unfold word
  rw [e]
  have g0 := x0.toNat_lt
  have g1 := x1.toNat_lt
  have g2 := x2.toNat_lt
  have g3 := x3.toNat_lt
  have hw : wd [x0, x1, x2, x3] = x0.toNat * 16777216 + x1.toNat * 65536 + x2.toNat * 256 + x3.toNat := by simp [wd]; omega
  rw [hw, UInt32.toNat_ofNat', Nat.mod_eq_of_lt (by omega)]
theorem sub_not (x : UInt32) : IntKind.u32.wrap (4294967295 - (x.toNat : Int)) = ((~~~x).toNat : Int) := by
  rw [wrap_u32, UInt32.toNat_not]
  have h := x.toNat_lt
  show _ = ((4294967296 - 1 - x.toNat : Nat) : Int)
  omega
theorem mixed_at (st : St) (ws : List UInt32) (j : Nat) (h : j < 8) : (stL (mixed st ws)).take (j + 1) = (stL (mixed st ws)).take j ++ [(stL st).getD j 0 + (stL (roundsN st cubes ws 64)).getD j 0] := by
  match j, h with
  | 0, _ => rfl
  | 1, _ => rfl
  | 2, _ => rfl
  | 3, _ => rfl
  | 4, _ => rfl
  | 5, _ => rfl
  | 6, _ => rfl
  | 7, _ => rfl
set_option maxRecDepth 100000 in
set_option maxHeartbeats 16000000 in
theorem refBlock_any (st : St) (A0 A1 A2 : Option Addr) (c0 c1 c2 B : Nat) (L : List UInt8) (hL : L.length = 64) (w : World) (hs : Rd w B A0 8 (wvs (stL st))) (hk : Rd w B A1 64 (wvs cubes)) (hb : Rd w B A2 64 (bv L)) (hB : B ≤ w.heap.size) (hc0 : 8 ≤ c0) :
    Calls Tryd.prog 83 #[.slice A0 8 c0, .slice A1 64 c1, .slice A2 64 c2] w fun e w' => ∃ A c, e = .returned (.slice A 8 c) ∧ Ow w' w.heap.size 96 A 8 c (wvs (stL (mixed st (wordsN L 64)))) ∧ Below w.heap.size w w' := by
  have H := Lib.hid (And.intro hs (And.intro hk hb))
  clear hs hk
  obtain ⟨b2, o2, rfl, hb2, hcb⟩ := hb.addr (by omega)
  have HCB := Lib.hid hcb
  clear hb hcb
  go_enter Tryd.func83, Tryd.ntmps83
  go_wp2_with fail
  go_loopw [7, 19] (fun v i wr => ∃ (t : Nat) (A : Option Addr) (d : Nat), v = .slice A t d ∧ i = .int .i64 (t : Int) ∧ t ≤ 64 ∧ Hid (Ow wr w.heap.size 96 A t d (wvs (wordsN L t)) ∧ Below w.heap.size w wr)) (fun _ i _ => 64 - (intOf i).toNat)
  case atStart => exact ⟨0, none, 0, rfl, rfl, by omega, Lib.hid ⟨Ow.nil _ _ _, Below.refl _ _⟩⟩
  case round =>
    obtain ⟨t, A, d, rfl, rfl, ht, HR⟩ := hrel
    have hws := HR.out.2.size
    have hb2w : b2 < w.heap.size := by omega
    by_cases hlt : t < 64
    · have k64 : (t : Int) < 64 := by omega
      by_cases h16 : t < 16
      · have k16 : (t : Int) < 16 := by omega
        obtain ⟨x0, hx0⟩ : ∃ x, L[4 * t]? = some x := ⟨_, List.getElem?_eq_getElem (by omega)⟩
        obtain ⟨x1, hx1⟩ : ∃ x, L[4 * t + 1]? = some x := ⟨_, List.getElem?_eq_getElem (by omega)⟩
        obtain ⟨x2, hx2⟩ : ∃ x, L[4 * t + 2]? = some x := ⟨_, List.getElem?_eq_getElem (by omega)⟩
        obtain ⟨x3, hx3⟩ : ∃ x, L[4 * t + 3]? = some x := ⟨_, List.getElem?_eq_getElem (by omega)⟩
        have hcl : ∀ (k : Nat) (x : UInt8), k < 64 → L[k]? = some x → w.cell? ⟨b2, o2 + k, none⟩ = some (.int .u8 (x.toNat : Int)) := fun k x hk hx => by
          rw [HCB.out k hk]
          simp [bv, hx]
        have e0 := hcl (4 * t) x0 (by omega) hx0
        have e1 := hcl (4 * t + 1) x1 (by omega) hx1
        have e2 := hcl (4 * t + 2) x2 (by omega) hx2
        have e3 := hcl (4 * t + 3) x3 (by omega) hx3
        have hw := word_val L t (by omega) x0 x1 x2 x3 hx0 hx1 hx2 hx3
        have g0 := x0.toNat_lt
        have g1 := x1.toNat_lt
        have g2 := x2.toNat_lt
        have g3 := x3.toNat_lt
        obtain ⟨N0, hN0⟩ : ∃ z, x0.toNat = z := ⟨_, rfl⟩
        obtain ⟨N1, hN1⟩ : ∃ z, x1.toNat = z := ⟨_, rfl⟩
        obtain ⟨N2, hN2⟩ : ∃ z, x2.toNat = z := ⟨_, rfl⟩
        obtain ⟨N3, hN3⟩ : ∃ z, x3.toNat = z := ⟨_, rfl⟩
        rw [hN0] at e0 g0 hw
        rw [hN1] at e1 g1 hw
        rw [hN2] at e2 g2 hw
        rw [hN3] at e3 g3 hw
        obtain ⟨q0, hq0⟩ : ∃ q, 4 * t = q := ⟨_, rfl⟩
        obtain ⟨q1, hq1⟩ : ∃ q, q0 + 1 = q := ⟨_, rfl⟩
        obtain ⟨q2, hq2⟩ : ∃ q, q0 + 2 = q := ⟨_, rfl⟩
        obtain ⟨q3, hq3⟩ : ∃ q, q0 + 3 = q := ⟨_, rfl⟩
        obtain ⟨P0, hP0⟩ : ∃ q, N0 * 16777216 = q := ⟨_, rfl⟩
        obtain ⟨P1, hP1⟩ : ∃ q, N1 * 65536 = q := ⟨_, rfl⟩
        obtain ⟨P2, hP2⟩ : ∃ q, N2 * 256 = q := ⟨_, rfl⟩
        obtain ⟨S1, hS1⟩ : ∃ q, P0 + P1 = q := ⟨_, rfl⟩
        obtain ⟨S2, hS2⟩ : ∃ q, S1 + P2 = q := ⟨_, rfl⟩
        obtain ⟨NW, hNW⟩ : ∃ q, (word L t).toNat = q := ⟨_, rfl⟩
        rw [hNW] at hw
        have f0 : IntKind.i64.wrap (4 * (t : Int)) = (q0 : Int) := by rw [IntKind.wrap_i64]; omega
        have f1 : IntKind.i64.wrap ((q0 : Int) + 1) = (q1 : Int) := by rw [IntKind.wrap_i64]; omega
        have f2 : IntKind.i64.wrap ((q0 : Int) + 2) = (q2 : Int) := by rw [IntKind.wrap_i64]; omega
        have f3 : IntKind.i64.wrap ((q0 : Int) + 3) = (q3 : Int) := by rw [IntKind.wrap_i64]; omega
        have m0 : IntKind.u32.wrap (N0 : Int) = (N0 : Int) := by rw [wrap_u32]; omega
        have m1 : IntKind.u32.wrap (N1 : Int) = (N1 : Int) := by rw [wrap_u32]; omega
        have m2 : IntKind.u32.wrap (N2 : Int) = (N2 : Int) := by rw [wrap_u32]; omega
        have m3 : IntKind.u32.wrap (N3 : Int) = (N3 : Int) := by rw [wrap_u32]; omega
        have p0 : IntKind.u32.wrap ((N0 : Int) * 16777216) = (P0 : Int) := by rw [wrap_u32]; omega
        have p1 : IntKind.u32.wrap ((N1 : Int) * 65536) = (P1 : Int) := by rw [wrap_u32]; omega
        have p2 : IntKind.u32.wrap ((N2 : Int) * 256) = (P2 : Int) := by rw [wrap_u32]; omega
        have s1 : IntKind.u32.wrap ((P0 : Int) + (P1 : Int)) = (S1 : Int) := by rw [wrap_u32]; omega
        have s2 : IntKind.u32.wrap ((S1 : Int) + (P2 : Int)) = (S2 : Int) := by rw [wrap_u32]; omega
        have s3 : IntKind.u32.wrap ((S2 : Int) + (N3 : Int)) = (NW : Int) := by rw [wrap_u32]; omega
        have l0 : (q0 : Int) < 64 := by omega
        have l1 : (q1 : Int) < 64 := by omega
        have l2 : (q2 : Int) < 64 := by omega
        have l3 : (q3 : Int) < 64 := by omega
        rw [hq0] at e0 e1 e2 e3
        rw [hq1] at e1
        rw [hq2] at e2
        rw [hq3] at e3
        have HNW := Lib.hid hNW
        have HIX : Hid (4 * t = q0) := Lib.hid hq0
        clear hcl hw hx0 hx1 hx2 hx3 hN0 hN1 hN2 hN3 hP0 hP1 hP2 hS1 hS2 hNW hq0 hq1 hq2 hq3 g0 g1 g2 g3
        go_upto_region 6 with fail
        have hdq := (HR.out.1).drew
        have hS0 : Below w.heap.size w wr.drew := below_drew' HR.out.2
        obtain ⟨wq, hwq⟩ : ∃ z, wr.drew = z := ⟨_, rfl⟩
        refine wp_region_held_drew (S := fun y => Below w.heap.size w y) (by kernel_rfl) hS0 (fun hHeld => ?_)
        rw [hwq] at hHeld hS0 hdq ⊢
        have HS := Lib.hid hS0
        have HO := Lib.hid hdq
        have HOq := HO
        clear hwq hS0 hdq
        refine wpAnyH_take (i := 0) (oi := { dst := some 24, op := Op.move (Operand.tmp 7), type := 97, pos := "ref.go:119", after := #[], guard := none }) (v := .slice A t d) rfl (by kernel_rfl) (by kernel_rfl) (by kernel_rfl) (fun _ _ _ h => h) (Or.inl ⟨by rfl, ?hy11_0⟩) (by assumption) ?rest11_0
        case hy11_0 => (intro w hSw; (try dsimp only at hSw); go_simp; try with_reducible rfl)
        try simp only [Act.put, List.setIfInBounds_toArray, List.set_cons_zero, List.set_cons_succ]
        refine wpAnyH_take (i := 1) (oi := { dst := some 25, op := Op.move (Operand.tmp 2), type := 24, pos := "ref.go:119", after := #[], guard := none }) (v := .slice (some ⟨b2, o2, none⟩) 64 c2) rfl (by kernel_rfl) (by kernel_rfl) (by kernel_rfl) (fun _ _ _ h => h) (Or.inl ⟨by rfl, ?hy11_1⟩) (by assumption) ?rest11_1
        case hy11_1 => (intro w hSw; (try dsimp only at hSw); go_simp; try with_reducible rfl)
        try simp only [Act.put, List.setIfInBounds_toArray, List.set_cons_zero, List.set_cons_succ]
        refine wpAnyH_take (i := 2) (oi := { dst := some 26, op := Op.move (Operand.tmp 8), type := 3, pos := "ref.go:119", after := #[], guard := none }) (v := .int .i64 (t : Int)) rfl (by kernel_rfl) (by kernel_rfl) (by kernel_rfl) (fun _ _ _ h => h) (Or.inl ⟨by rfl, ?hy11_2⟩) (by assumption) ?rest11_2
        case hy11_2 => (intro w hSw; (try dsimp only at hSw); go_simp; try with_reducible rfl)
        try simp only [Act.put, List.setIfInBounds_toArray, List.set_cons_zero, List.set_cons_succ]
        refine wpAnyH_take (i := 3) (oi := { dst := some 27, op := Op.binOp BinOp.mul 3 (Operand.const (Value.int IntKind.i64 4)) (Operand.tmp 26) 3, type := 3, pos := "ref.go:119", after := #[{ on := 2, ground := Ground.data }], guard := none }) (v := .int .i64 (q0 : Int)) rfl (by kernel_rfl) (by kernel_rfl) (by kernel_rfl) (fun _ _ _ h => h) (Or.inl ⟨by rfl, ?hy11_3⟩) (by assumption) ?rest11_3
        case hy11_3 => (intro w hSw; (try dsimp only at hSw); go_simp; try with_reducible rfl)
        try simp only [Act.put, List.setIfInBounds_toArray, List.set_cons_zero, List.set_cons_succ]
        refine wpAnyH_take (i := 4) (oi := { dst := some 28, op := Op.indexAddr 24 (Operand.tmp 25) (Operand.tmp 27), type := 0, pos := "ref.go:119", after := #[{ on := 1, ground := Ground.data }, { on := 3, ground := Ground.data }], guard := none }) (v := .pointer (some ⟨b2, o2 + q0, none⟩)) rfl (by kernel_rfl) (by kernel_rfl) (by kernel_rfl) (fun _ _ _ h => h) (Or.inl ⟨by rfl, ?hy11_4⟩) (by assumption) ?rest11_4
        case hy11_4 => (intro w hSw; (try dsimp only at hSw); go_simp; try with_reducible rfl)
        try simp only [Act.put, List.setIfInBounds_toArray, List.set_cons_zero, List.set_cons_succ]
        refine wpAnyH_take (i := 5) (oi := { dst := some 29, op := Op.load 5 (Operand.tmp 28), type := 5, pos := "ref.go:119", after := #[{ on := 4, ground := Ground.data }], guard := none }) (v := .int .u8 (N0 : Int)) rfl (by kernel_rfl) (by kernel_rfl) (by kernel_rfl) (fun _ _ _ h => h) (Or.inl ⟨by rfl, ?hy11_5⟩) (by assumption) ?rest11_5
        case hy11_5 => (intro w1 hSw; have hq := (Below.cell hSw (p := ⟨b2, o2 + q0, none⟩) hb2w).trans e0; go_simp; try with_reducible rfl)
        try simp only [Act.put, List.setIfInBounds_toArray, List.set_cons_zero, List.set_cons_succ]
        refine wpAnyH_take (i := 6) (oi := { dst := some 30, op := Op.convert 5 96 (Operand.tmp 29), type := 96, pos := "ref.go:119", after := #[{ on := 5, ground := Ground.data }], guard := none }) (v := .int .u32 (N0 : Int)) rfl (by kernel_rfl) (by kernel_rfl) (by kernel_rfl) (fun _ _ _ h => h) (Or.inl ⟨by rfl, ?hy11_6⟩) (by assumption) ?rest11_6
        case hy11_6 => (intro w hSw; (try dsimp only at hSw); go_simp; try with_reducible rfl)
        try simp only [Act.put, List.setIfInBounds_toArray, List.set_cons_zero, List.set_cons_succ]
        refine wpAnyH_take (i := 7) (oi := { dst := some 31, op := Op.binOp BinOp.mul 96 (Operand.tmp 30) (Operand.const (Value.int IntKind.u32 16777216)) 96, type := 96, pos := "ref.go:119", after := #[{ on := 6, ground := Ground.data }], guard := none }) (v := .int .u32 (P0 : Int)) rfl (by kernel_rfl) (by kernel_rfl) (by kernel_rfl) (fun _ _ _ h => h) (Or.inl ⟨by rfl, ?hy11_7⟩) (by assumption) ?rest11_7
        case hy11_7 => (intro w hSw; (try dsimp only at hSw); go_simp; try with_reducible rfl)
        try simp only [Act.put, List.setIfInBounds_toArray, List.set_cons_zero, List.set_cons_succ]
        refine wpAnyH_take (i := 8) (oi := { dst := some 32, op := Op.move (Operand.tmp 2), type := 24, pos := "ref.go:119", after := #[], guard := none }) (v := .slice (some ⟨b2, o2, none⟩) 64 c2) rfl (by kernel_rfl) (by kernel_rfl) (by kernel_rfl) (fun _ _ _ h => h) (Or.inl ⟨by rfl, ?hy11_8⟩) (by assumption) ?rest11_8
        case hy11_8 => (intro w hSw; (try dsimp only at hSw); go_simp; try with_reducible rfl)
        try simp only [Act.put, List.setIfInBounds_toArray, List.set_cons_zero, List.set_cons_succ]
        refine wpAnyH_take (i := 9) (oi := { dst := some 33, op := Op.move (Operand.tmp 8), type := 3, pos := "ref.go:119", after := #[], guard := none }) (v := .int .i64 (t : Int)) rfl (by kernel_rfl) (by kernel_rfl) (by kernel_rfl) (fun _ _ _ h => h) (Or.inl ⟨by rfl, ?hy11_9⟩) (by assumption) ?rest11_9
        case hy11_9 => (intro w hSw; (try dsimp only at hSw); go_simp; try with_reducible rfl)
        try simp only [Act.put, List.setIfInBounds_toArray, List.set_cons_zero, List.set_cons_succ]
        refine wpAnyH_take (i := 10) (oi := { dst := some 34, op := Op.binOp BinOp.mul 3 (Operand.const (Value.int IntKind.i64 4)) (Operand.tmp 33) 3, type := 3, pos := "ref.go:119", after := #[{ on := 9, ground := Ground.data }], guard := none }) (v := .int .i64 (q0 : Int)) rfl (by kernel_rfl) (by kernel_rfl) (by kernel_rfl) (fun _ _ _ h => h) (Or.inl ⟨by rfl, ?hy11_10⟩) (by assumption) ?rest11_10
        case hy11_10 => (intro w hSw; (try dsimp only at hSw); go_simp; try with_reducible rfl)
        try simp only [Act.put, List.setIfInBounds_toArray, List.set_cons_zero, List.set_cons_succ]
        refine wpAnyH_take (i := 11) (oi := { dst := some 35, op := Op.binOp BinOp.add 3 (Operand.tmp 34) (Operand.const (Value.int IntKind.i64 1)) 3, type := 3, pos := "ref.go:119", after := #[{ on := 10, ground := Ground.data }], guard := none }) (v := .int .i64 (q1 : Int)) rfl (by kernel_rfl) (by kernel_rfl) (by kernel_rfl) (fun _ _ _ h => h) (Or.inl ⟨by rfl, ?hy11_11⟩) (by assumption) ?rest11_11
        case hy11_11 => (intro w hSw; (try dsimp only at hSw); go_simp; try with_reducible rfl)
        try simp only [Act.put, List.setIfInBounds_toArray, List.set_cons_zero, List.set_cons_succ]
        refine wpAnyH_take (i := 12) (oi := { dst := some 36, op := Op.indexAddr 24 (Operand.tmp 32) (Operand.tmp 35), type := 0, pos := "ref.go:119", after := #[{ on := 8, ground := Ground.data }, { on := 11, ground := Ground.data }], guard := none }) (v := .pointer (some ⟨b2, o2 + q1, none⟩)) rfl (by kernel_rfl) (by kernel_rfl) (by kernel_rfl) (fun _ _ _ h => h) (Or.inl ⟨by rfl, ?hy11_12⟩) (by assumption) ?rest11_12
        case hy11_12 => (intro w hSw; (try dsimp only at hSw); go_simp; try with_reducible rfl)
        try simp only [Act.put, List.setIfInBounds_toArray, List.set_cons_zero, List.set_cons_succ]
        refine wpAnyH_take (i := 13) (oi := { dst := some 37, op := Op.load 5 (Operand.tmp 36), type := 5, pos := "ref.go:119", after := #[{ on := 12, ground := Ground.data }], guard := none }) (v := .int .u8 (N1 : Int)) rfl (by kernel_rfl) (by kernel_rfl) (by kernel_rfl) (fun _ _ _ h => h) (Or.inl ⟨by rfl, ?hy11_13⟩) (by assumption) ?rest11_13
        case hy11_13 => (intro w1 hSw; have hq := (Below.cell hSw (p := ⟨b2, o2 + q1, none⟩) hb2w).trans e1; go_simp; try with_reducible rfl)
        try simp only [Act.put, List.setIfInBounds_toArray, List.set_cons_zero, List.set_cons_succ]
        refine wpAnyH_take (i := 14) (oi := { dst := some 38, op := Op.convert 5 96 (Operand.tmp 37), type := 96, pos := "ref.go:119", after := #[{ on := 13, ground := Ground.data }], guard := none }) (v := .int .u32 (N1 : Int)) rfl (by kernel_rfl) (by kernel_rfl) (by kernel_rfl) (fun _ _ _ h => h) (Or.inl ⟨by rfl, ?hy11_14⟩) (by assumption) ?rest11_14
        case hy11_14 => (intro w hSw; (try dsimp only at hSw); go_simp; try with_reducible rfl)
        try simp only [Act.put, List.setIfInBounds_toArray, List.set_cons_zero, List.set_cons_succ]
        refine wpAnyH_take (i := 15) (oi := { dst := some 39, op := Op.binOp BinOp.mul 96 (Operand.tmp 38) (Operand.const (Value.int IntKind.u32 65536)) 96, type := 96, pos := "ref.go:119", after := #[{ on := 14, ground := Ground.data }], guard := none }) (v := .int .u32 (P1 : Int)) rfl (by kernel_rfl) (by kernel_rfl) (by kernel_rfl) (fun _ _ _ h => h) (Or.inl ⟨by rfl, ?hy11_15⟩) (by assumption) ?rest11_15
        case hy11_15 => (intro w hSw; (try dsimp only at hSw); go_simp; try with_reducible rfl)
        try simp only [Act.put, List.setIfInBounds_toArray, List.set_cons_zero, List.set_cons_succ]
        refine wpAnyH_take (i := 16) (oi := { dst := some 40, op := Op.binOp BinOp.add 96 (Operand.tmp 31) (Operand.tmp 39) 96, type := 96, pos := "ref.go:119", after := #[{ on := 7, ground := Ground.data }, { on := 15, ground := Ground.data }], guard := none }) (v := .int .u32 (S1 : Int)) rfl (by kernel_rfl) (by kernel_rfl) (by kernel_rfl) (fun _ _ _ h => h) (Or.inl ⟨by rfl, ?hy11_16⟩) (by assumption) ?rest11_16
        case hy11_16 => (intro w hSw; (try dsimp only at hSw); go_simp; try with_reducible rfl)
        try simp only [Act.put, List.setIfInBounds_toArray, List.set_cons_zero, List.set_cons_succ]
        refine wpAnyH_take (i := 17) (oi := { dst := some 41, op := Op.move (Operand.tmp 2), type := 24, pos := "ref.go:119", after := #[], guard := none }) (v := .slice (some ⟨b2, o2, none⟩) 64 c2) rfl (by kernel_rfl) (by kernel_rfl) (by kernel_rfl) (fun _ _ _ h => h) (Or.inl ⟨by rfl, ?hy11_17⟩) (by assumption) ?rest11_17
        case hy11_17 => (intro w hSw; (try dsimp only at hSw); go_simp; try with_reducible rfl)
        try simp only [Act.put, List.setIfInBounds_toArray, List.set_cons_zero, List.set_cons_succ]
        refine wpAnyH_take (i := 18) (oi := { dst := some 42, op := Op.move (Operand.tmp 8), type := 3, pos := "ref.go:119", after := #[], guard := none }) (v := .int .i64 (t : Int)) rfl (by kernel_rfl) (by kernel_rfl) (by kernel_rfl) (fun _ _ _ h => h) (Or.inl ⟨by rfl, ?hy11_18⟩) (by assumption) ?rest11_18
        case hy11_18 => (intro w hSw; (try dsimp only at hSw); go_simp; try with_reducible rfl)
        try simp only [Act.put, List.setIfInBounds_toArray, List.set_cons_zero, List.set_cons_succ]
        refine wpAnyH_take (i := 19) (oi := { dst := some 43, op := Op.binOp BinOp.mul 3 (Operand.const (Value.int IntKind.i64 4)) (Operand.tmp 42) 3, type := 3, pos := "ref.go:119", after := #[{ on := 18, ground := Ground.data }], guard := none }) (v := .int .i64 (q0 : Int)) rfl (by kernel_rfl) (by kernel_rfl) (by kernel_rfl) (fun _ _ _ h => h) (Or.inl ⟨by rfl, ?hy11_19⟩) (by assumption) ?rest11_19
        case hy11_19 => (intro w hSw; (try dsimp only at hSw); go_simp; try with_reducible rfl)
        try simp only [Act.put, List.setIfInBounds_toArray, List.set_cons_zero, List.set_cons_succ]
        refine wpAnyH_take (i := 20) (oi := { dst := some 44, op := Op.binOp BinOp.add 3 (Operand.tmp 43) (Operand.const (Value.int IntKind.i64 2)) 3, type := 3, pos := "ref.go:119", after := #[{ on := 19, ground := Ground.data }], guard := none }) (v := .int .i64 (q2 : Int)) rfl (by kernel_rfl) (by kernel_rfl) (by kernel_rfl) (fun _ _ _ h => h) (Or.inl ⟨by rfl, ?hy11_20⟩) (by assumption) ?rest11_20
        case hy11_20 => (intro w hSw; (try dsimp only at hSw); go_simp; try with_reducible rfl)
        try simp only [Act.put, List.setIfInBounds_toArray, List.set_cons_zero, List.set_cons_succ]
        refine wpAnyH_take (i := 21) (oi := { dst := some 45, op := Op.indexAddr 24 (Operand.tmp 41) (Operand.tmp 44), type := 0, pos := "ref.go:119", after := #[{ on := 17, ground := Ground.data }, { on := 20, ground := Ground.data }], guard := none }) (v := .pointer (some ⟨b2, o2 + q2, none⟩)) rfl (by kernel_rfl) (by kernel_rfl) (by kernel_rfl) (fun _ _ _ h => h) (Or.inl ⟨by rfl, ?hy11_21⟩) (by assumption) ?rest11_21
        case hy11_21 => (intro w hSw; (try dsimp only at hSw); go_simp; try with_reducible rfl)
        try simp only [Act.put, List.setIfInBounds_toArray, List.set_cons_zero, List.set_cons_succ]
        refine wpAnyH_take (i := 22) (oi := { dst := some 46, op := Op.load 5 (Operand.tmp 45), type := 5, pos := "ref.go:119", after := #[{ on := 21, ground := Ground.data }], guard := none }) (v := .int .u8 (N2 : Int)) rfl (by kernel_rfl) (by kernel_rfl) (by kernel_rfl) (fun _ _ _ h => h) (Or.inl ⟨by rfl, ?hy11_22⟩) (by assumption) ?rest11_22
        case hy11_22 => (intro w1 hSw; have hq := (Below.cell hSw (p := ⟨b2, o2 + q2, none⟩) hb2w).trans e2; go_simp; try with_reducible rfl)
        try simp only [Act.put, List.setIfInBounds_toArray, List.set_cons_zero, List.set_cons_succ]
        refine wpAnyH_take (i := 23) (oi := { dst := some 47, op := Op.convert 5 96 (Operand.tmp 46), type := 96, pos := "ref.go:119", after := #[{ on := 22, ground := Ground.data }], guard := none }) (v := .int .u32 (N2 : Int)) rfl (by kernel_rfl) (by kernel_rfl) (by kernel_rfl) (fun _ _ _ h => h) (Or.inl ⟨by rfl, ?hy11_23⟩) (by assumption) ?rest11_23
        case hy11_23 => (intro w hSw; (try dsimp only at hSw); go_simp; try with_reducible rfl)
        try simp only [Act.put, List.setIfInBounds_toArray, List.set_cons_zero, List.set_cons_succ]
        refine wpAnyH_take (i := 24) (oi := { dst := some 48, op := Op.binOp BinOp.mul 96 (Operand.tmp 47) (Operand.const (Value.int IntKind.u32 256)) 96, type := 96, pos := "ref.go:119", after := #[{ on := 23, ground := Ground.data }], guard := none }) (v := .int .u32 (P2 : Int)) rfl (by kernel_rfl) (by kernel_rfl) (by kernel_rfl) (fun _ _ _ h => h) (Or.inl ⟨by rfl, ?hy11_24⟩) (by assumption) ?rest11_24
        case hy11_24 => (intro w hSw; (try dsimp only at hSw); go_simp; try with_reducible rfl)
        try simp only [Act.put, List.setIfInBounds_toArray, List.set_cons_zero, List.set_cons_succ]
        refine wpAnyH_take (i := 25) (oi := { dst := some 49, op := Op.binOp BinOp.add 96 (Operand.tmp 40) (Operand.tmp 48) 96, type := 96, pos := "ref.go:119", after := #[{ on := 16, ground := Ground.data }, { on := 24, ground := Ground.data }], guard := none }) (v := .int .u32 (S2 : Int)) rfl (by kernel_rfl) (by kernel_rfl) (by kernel_rfl) (fun _ _ _ h => h) (Or.inl ⟨by rfl, ?hy11_25⟩) (by assumption) ?rest11_25
        case hy11_25 => (intro w hSw; (try dsimp only at hSw); go_simp; try with_reducible rfl)
        try simp only [Act.put, List.setIfInBounds_toArray, List.set_cons_zero, List.set_cons_succ]
        refine wpAnyH_take (i := 26) (oi := { dst := some 50, op := Op.move (Operand.tmp 2), type := 24, pos := "ref.go:119", after := #[], guard := none }) (v := .slice (some ⟨b2, o2, none⟩) 64 c2) rfl (by kernel_rfl) (by kernel_rfl) (by kernel_rfl) (fun _ _ _ h => h) (Or.inl ⟨by rfl, ?hy11_26⟩) (by assumption) ?rest11_26
        case hy11_26 => (intro w hSw; (try dsimp only at hSw); go_simp; try with_reducible rfl)
        try simp only [Act.put, List.setIfInBounds_toArray, List.set_cons_zero, List.set_cons_succ]
        refine wpAnyH_take (i := 27) (oi := { dst := some 51, op := Op.move (Operand.tmp 8), type := 3, pos := "ref.go:119", after := #[], guard := none }) (v := .int .i64 (t : Int)) rfl (by kernel_rfl) (by kernel_rfl) (by kernel_rfl) (fun _ _ _ h => h) (Or.inl ⟨by rfl, ?hy11_27⟩) (by assumption) ?rest11_27
        case hy11_27 => (intro w hSw; (try dsimp only at hSw); go_simp; try with_reducible rfl)
        try simp only [Act.put, List.setIfInBounds_toArray, List.set_cons_zero, List.set_cons_succ]
        refine wpAnyH_take (i := 28) (oi := { dst := some 52, op := Op.binOp BinOp.mul 3 (Operand.const (Value.int IntKind.i64 4)) (Operand.tmp 51) 3, type := 3, pos := "ref.go:119", after := #[{ on := 27, ground := Ground.data }], guard := none }) (v := .int .i64 (q0 : Int)) rfl (by kernel_rfl) (by kernel_rfl) (by kernel_rfl) (fun _ _ _ h => h) (Or.inl ⟨by rfl, ?hy11_28⟩) (by assumption) ?rest11_28
        case hy11_28 => (intro w hSw; (try dsimp only at hSw); go_simp; try with_reducible rfl)
        try simp only [Act.put, List.setIfInBounds_toArray, List.set_cons_zero, List.set_cons_succ]
        refine wpAnyH_take (i := 29) (oi := { dst := some 53, op := Op.binOp BinOp.add 3 (Operand.tmp 52) (Operand.const (Value.int IntKind.i64 3)) 3, type := 3, pos := "ref.go:119", after := #[{ on := 28, ground := Ground.data }], guard := none }) (v := .int .i64 (q3 : Int)) rfl (by kernel_rfl) (by kernel_rfl) (by kernel_rfl) (fun _ _ _ h => h) (Or.inl ⟨by rfl, ?hy11_29⟩) (by assumption) ?rest11_29
        case hy11_29 => (intro w hSw; (try dsimp only at hSw); go_simp; try with_reducible rfl)
        try simp only [Act.put, List.setIfInBounds_toArray, List.set_cons_zero, List.set_cons_succ]
        refine wpAnyH_take (i := 30) (oi := { dst := some 54, op := Op.indexAddr 24 (Operand.tmp 50) (Operand.tmp 53), type := 0, pos := "ref.go:119", after := #[{ on := 26, ground := Ground.data }, { on := 29, ground := Ground.data }], guard := none }) (v := .pointer (some ⟨b2, o2 + q3, none⟩)) rfl (by kernel_rfl) (by kernel_rfl) (by kernel_rfl) (fun _ _ _ h => h) (Or.inl ⟨by rfl, ?hy11_30⟩) (by assumption) ?rest11_30
        case hy11_30 => (intro w hSw; (try dsimp only at hSw); go_simp; try with_reducible rfl)
        try simp only [Act.put, List.setIfInBounds_toArray, List.set_cons_zero, List.set_cons_succ]
        refine wpAnyH_take (i := 31) (oi := { dst := some 55, op := Op.load 5 (Operand.tmp 54), type := 5, pos := "ref.go:119", after := #[{ on := 30, ground := Ground.data }], guard := none }) (v := .int .u8 (N3 : Int)) rfl (by kernel_rfl) (by kernel_rfl) (by kernel_rfl) (fun _ _ _ h => h) (Or.inl ⟨by rfl, ?hy11_31⟩) (by assumption) ?rest11_31
        case hy11_31 => (intro w1 hSw; have hq := (Below.cell hSw (p := ⟨b2, o2 + q3, none⟩) hb2w).trans e3; go_simp; try with_reducible rfl)
        try simp only [Act.put, List.setIfInBounds_toArray, List.set_cons_zero, List.set_cons_succ]
        refine wpAnyH_take (i := 32) (oi := { dst := some 56, op := Op.convert 5 96 (Operand.tmp 55), type := 96, pos := "ref.go:119", after := #[{ on := 31, ground := Ground.data }], guard := none }) (v := .int .u32 (N3 : Int)) rfl (by kernel_rfl) (by kernel_rfl) (by kernel_rfl) (fun _ _ _ h => h) (Or.inl ⟨by rfl, ?hy11_32⟩) (by assumption) ?rest11_32
        case hy11_32 => (intro w hSw; (try dsimp only at hSw); go_simp; try with_reducible rfl)
        try simp only [Act.put, List.setIfInBounds_toArray, List.set_cons_zero, List.set_cons_succ]
        refine wpAnyH_take (i := 33) (oi := { dst := some 57, op := Op.binOp BinOp.add 96 (Operand.tmp 49) (Operand.tmp 56) 96, type := 96, pos := "ref.go:119", after := #[{ on := 25, ground := Ground.data }, { on := 32, ground := Ground.data }], guard := none }) (v := .int .u32 (NW : Int)) rfl (by kernel_rfl) (by kernel_rfl) (by kernel_rfl) (fun _ _ _ h => h) (Or.inl ⟨by rfl, ?hy11_33⟩) (by assumption) ?rest11_33
        case hy11_33 => (intro w hSw; (try dsimp only at hSw); go_simp; try with_reducible rfl)
        try simp only [Act.put, List.setIfInBounds_toArray, List.set_cons_zero, List.set_cons_succ]
        refine wpAnyH_ready (rs := [34]) (by kernel_rfl) (by simp) ?_
        refine AllReadyH.cons (o := { dst := some 58, op := Op.buildSlice 97 1 #[(0, Operand.tmp 57)], type := 97, pos := "ref.go:119", after := #[{ on := 33, ground := Ground.data }], guard := none }) rfl (fun K hK => ?_) AllReadyH.nil
        refine (if_pos (by rfl)).mpr ?_
        unfold Oper.wp
        go_simp
        have hV0 := (Below.alloc HS.out HS.out.size (.cells #[.int .u32 (NW : Int)] 96) : Below w.heap.size w _)
        refine hK.out _ _ hV0 (fun _ => ?_)
        clear hK K
        try simp only [Act.put, List.setIfInBounds_toArray, List.set_cons_zero, List.set_cons_succ]
        refine wpAnyH_ready (rs := [35]) (by kernel_rfl) (by simp) ?_
        refine AllReadyH.cons (o := { dst := some 59, op := Op.call { callee := Callee.builtin Builtin.append, args := #[Operand.tmp 24, Operand.tmp 58], argTypes := #[97, 97] }, type := 97, pos := "ref.go:119", after := #[{ on := 0, ground := Ground.data }, { on := 34, ground := Ground.data }], guard := none }) rfl (fun K hK => ?_) AllReadyH.nil
        refine step_app u32tyB rfl (.tmp 24) (.tmp 58) rfl rfl rfl ((HO.out).alloc _) (Rd.one _ _ _) (one1 rfl) (by omega) (by omega) (by simp; have := (HS.out).size; omega) ?_
        intro A3 n3 d3 w3 ho3 hn3 hb3 hg3
        have hb33 := hV0.trans hb3
        refine hK.out _ _ hb33 (fun _ => ?_)
        clear hK K
        try simp only [Act.put, List.setIfInBounds_toArray, List.set_cons_zero, List.set_cons_succ]
        refine wpAnyH_take (i := 36) (oi := { dst := some 7, op := Op.assign (Operand.tmp 59), type := 97, pos := "ref.go:119", after := #[{ on := 35, ground := Ground.data }, { on := 35, ground := Ground.chain }, { on := 0, ground := Ground.phase }, { on := 1, ground := Ground.phase }, { on := 2, ground := Ground.phase }, { on := 3, ground := Ground.phase }, { on := 4, ground := Ground.phase }, { on := 5, ground := Ground.phase }, { on := 6, ground := Ground.phase }, { on := 7, ground := Ground.phase }, { on := 8, ground := Ground.phase }, { on := 9, ground := Ground.phase }, { on := 10, ground := Ground.phase }, { on := 11, ground := Ground.phase }, { on := 12, ground := Ground.phase }, { on := 13, ground := Ground.phase }, { on := 14, ground := Ground.phase }, { on := 15, ground := Ground.phase }, { on := 16, ground := Ground.phase }, { on := 17, ground := Ground.phase }, { on := 18, ground := Ground.phase }, { on := 19, ground := Ground.phase }, { on := 20, ground := Ground.phase }, { on := 21, ground := Ground.phase }, { on := 22, ground := Ground.phase }, { on := 23, ground := Ground.phase }, { on := 24, ground := Ground.phase }, { on := 25, ground := Ground.phase }, { on := 26, ground := Ground.phase }, { on := 27, ground := Ground.phase }, { on := 28, ground := Ground.phase }, { on := 29, ground := Ground.phase }, { on := 30, ground := Ground.phase }, { on := 31, ground := Ground.phase }, { on := 32, ground := Ground.phase }, { on := 33, ground := Ground.phase }, { on := 34, ground := Ground.phase }, { on := 35, ground := Ground.phase }], guard := none }) (v := .slice A3 n3 d3) rfl (by kernel_rfl) (by kernel_rfl) (by kernel_rfl) (fun _ _ _ h => h) (Or.inl ⟨by rfl, ?hy11_36⟩) (by assumption) ?rest11_36
        case hy11_36 => (intro w hSw; (try dsimp only at hSw); go_simp; try with_reducible rfl)
        try simp only [Act.put, List.setIfInBounds_toArray, List.set_cons_zero, List.set_cons_succ]
        refine wpAnyH_done (by kernel_rfl) ?_ _
        clear f0 f1 f2 f3 m0 m1 m2 m3 p0 p1 p2 s1 s2 s3 e0 e1 e2 e3
        go_wp2_with fail
        have hn3t : n3 = t + 1 := by have := ho3.len; rw [List.length_append, wvs_len, wordsN_len] at this; exact this.symm
        subst hn3t
        have hwn : wvs (wordsN L (t + 1)) = wvs (wordsN L t) ++ [.int .u32 (NW : Int)] := by
          rw [show wordsN L (t + 1) = wordsN L t ++ [word L t] by rw [wordsN, if_pos h16], ← HNW.out]
          simp [wvs, wv]
        rw [← hwn] at ho3
        exact ⟨⟨t + 1, A3, d3, rfl, by go_num, by omega, Lib.hid ⟨ho3, hb33⟩⟩, by simp [intOf]; omega⟩
      · obtain ⟨gA, rfl, hgA1, hgA2⟩ := HR.out.1.at0 (by omega)
        have hcells : ∀ j, j < t → wr.cell? ⟨gA, j, none⟩ = (wvs (wordsN L t))[j]? := fun j hj => by
          obtain ⟨b, off, e, _, hc⟩ := HR.out.1.rd.at_ hj
          injection e with e
          injection e with e1 e2
          subst e1
          subst e2
          rw [Nat.zero_add] at hc
          exact hc
        have HC := Lib.hid hcells
        have k16n : ¬ (t : Int) < 16 := by omega
        have hat : ∀ k, k < t → (wvs (wordsN L t))[k]? = some (wv ((wordsN L t).getD k 0)) := fun k hk => wvs_at _ k (by rw [wordsN_len]; exact hk)
        have hmade : made (wordsN L t) t = (wordsN L t).getD (t - 16) 0 + far ((wordsN L t).getD (t - 15) 0) + (wordsN L t).getD (t - 7) 0 + near ((wordsN L t).getD (t - 2) 0) := rfl
        obtain ⟨k16, hk16⟩ : ∃ k, t - 16 = k := ⟨_, rfl⟩
        obtain ⟨k15, hk15⟩ : ∃ k, t - 15 = k := ⟨_, rfl⟩
        obtain ⟨k7, hk7⟩ : ∃ k, t - 7 = k := ⟨_, rfl⟩
        obtain ⟨k2, hk2⟩ : ∃ k, t - 2 = k := ⟨_, rfl⟩
        rw [hk16, hk15, hk7, hk2] at hmade
        have lk16 : k16 < t := by omega
        have lk15 : k15 < t := by omega
        have lk7 : k7 < t := by omega
        have lk2 : k2 < t := by omega
        have e16 := hat k16 lk16
        have e15 := hat k15 lk15
        have e7 := hat k7 lk7
        have e2 := hat k2 lk2
        obtain ⟨x16, hx16⟩ : ∃ x, (wordsN L t).getD k16 0 = x := ⟨_, rfl⟩
        obtain ⟨x15, hx15⟩ : ∃ x, (wordsN L t).getD k15 0 = x := ⟨_, rfl⟩
        obtain ⟨x7, hx7⟩ : ∃ x, (wordsN L t).getD k7 0 = x := ⟨_, rfl⟩
        obtain ⟨x2, hx2⟩ : ∃ x, (wordsN L t).getD k2 0 = x := ⟨_, rfl⟩
        rw [hx16] at hmade e16
        rw [hx15] at hmade e15
        rw [hx7] at hmade e7
        rw [hx2] at hmade e2
        have HMADE := Lib.hid hmade
        unfold wv at e16 e15 e7 e2
        obtain ⟨N16, hN16⟩ : ∃ z, x16.toNat = z := ⟨_, rfl⟩
        obtain ⟨N15, hN15⟩ : ∃ z, x15.toNat = z := ⟨_, rfl⟩
        obtain ⟨N7, hN7⟩ : ∃ z, x7.toNat = z := ⟨_, rfl⟩
        obtain ⟨N2, hN2⟩ : ∃ z, x2.toNat = z := ⟨_, rfl⟩
        rw [hN16] at e16
        rw [hN15] at e15
        rw [hN7] at e7
        rw [hN2] at e2
        have i16 : IntKind.i64.wrap ((t : Int) - 16) = (k16 : Int) := by rw [IntKind.wrap_i64]; omega
        have i15 : IntKind.i64.wrap ((t : Int) - 15) = (k15 : Int) := by rw [IntKind.wrap_i64]; omega
        have i7 : IntKind.i64.wrap ((t : Int) - 7) = (k7 : Int) := by rw [IntKind.wrap_i64]; omega
        have i2 : IntKind.i64.wrap ((t : Int) - 2) = (k2 : Int) := by rw [IntKind.wrap_i64]; omega
        have m16 : (k16 : Int) < (t : Int) := by omega
        have m15 : (k15 : Int) < (t : Int) := by omega
        have m7 : (k7 : Int) < (t : Int) := by omega
        have m2 : (k2 : Int) < (t : Int) := by omega
        clear hat hmade hx16 hx15 hx7 hx2 hk16 hk15 hk7 hk2 hcells
        go_upto_region 7 with fail
        have hdq := (HR.out.1).drew
        have hS0 : (Below w.heap.size w wr.drew ∧ ∀ j, j < t → World.cell? wr.drew ⟨gA, j, none⟩ = (wvs (wordsN L t))[j]?) := ⟨below_drew' HR.out.2, fun j hj => HC.out j hj⟩
        obtain ⟨wq, hwq⟩ : ∃ z, wr.drew = z := ⟨_, rfl⟩
        refine wp_region_held_drew (S := fun y => (Below w.heap.size w y ∧ ∀ j, j < t → World.cell? y ⟨gA, j, none⟩ = (wvs (wordsN L t))[j]?)) (by kernel_rfl) hS0 (fun hHeld => ?_)
        rw [hwq] at hHeld hS0 hdq ⊢
        have HS := Lib.hid hS0
        have HO := Lib.hid hdq
        have HOq := HO
        clear hwq hS0 hdq
        refine wpAnyH_take (i := 0) (oi := { dst := some 60, op := Op.move (Operand.tmp 7), type := 97, pos := "ref.go:122", after := #[], guard := none }) (v := .slice (some ⟨gA, 0, none⟩) t d) rfl (by kernel_rfl) (by kernel_rfl) (by kernel_rfl) (fun _ _ _ h => h) (Or.inl ⟨by rfl, ?hy22_0⟩) (by assumption) ?rest22_0
        case hy22_0 => (intro w hSw; (try dsimp only at hSw); go_simp; try with_reducible rfl)
        try simp only [Act.put, List.setIfInBounds_toArray, List.set_cons_zero, List.set_cons_succ]
        refine wpAnyH_take (i := 1) (oi := { dst := some 61, op := Op.move (Operand.tmp 8), type := 3, pos := "ref.go:122", after := #[], guard := none }) (v := .int .i64 (t : Int)) rfl (by kernel_rfl) (by kernel_rfl) (by kernel_rfl) (fun _ _ _ h => h) (Or.inl ⟨by rfl, ?hy22_1⟩) (by assumption) ?rest22_1
        case hy22_1 => (intro w hSw; (try dsimp only at hSw); go_simp; try with_reducible rfl)
        try simp only [Act.put, List.setIfInBounds_toArray, List.set_cons_zero, List.set_cons_succ]
        refine wpAnyH_take (i := 2) (oi := { dst := some 62, op := Op.binOp BinOp.sub 3 (Operand.tmp 61) (Operand.const (Value.int IntKind.i64 15)) 3, type := 3, pos := "ref.go:122", after := #[{ on := 1, ground := Ground.data }], guard := none }) (v := .int .i64 (k15 : Int)) rfl (by kernel_rfl) (by kernel_rfl) (by kernel_rfl) (fun _ _ _ h => h) (Or.inl ⟨by rfl, ?hy22_2⟩) (by assumption) ?rest22_2
        case hy22_2 => (intro w hSw; (try dsimp only at hSw); go_simp; try with_reducible rfl)
        try simp only [Act.put, List.setIfInBounds_toArray, List.set_cons_zero, List.set_cons_succ]
        refine wpAnyH_take (i := 3) (oi := { dst := some 63, op := Op.indexAddr 97 (Operand.tmp 60) (Operand.tmp 62), type := 0, pos := "ref.go:122", after := #[{ on := 0, ground := Ground.data }, { on := 2, ground := Ground.data }], guard := none }) (v := .pointer (some ⟨gA, k15, none⟩)) rfl (by kernel_rfl) (by kernel_rfl) (by kernel_rfl) (fun _ _ _ h => h) (Or.inl ⟨by rfl, ?hy22_3⟩) (by assumption) ?rest22_3
        case hy22_3 => (intro w hSw; (try dsimp only at hSw); go_simp; try with_reducible rfl)
        try simp only [Act.put, List.setIfInBounds_toArray, List.set_cons_zero, List.set_cons_succ]
        refine wpAnyH_take (i := 4) (oi := { dst := some 64, op := Op.load 96 (Operand.tmp 63), type := 96, pos := "ref.go:122", after := #[{ on := 3, ground := Ground.data }], guard := none }) (v := .int .u32 (N15 : Int)) rfl (by kernel_rfl) (by kernel_rfl) (by kernel_rfl) (fun _ _ _ h => h) (Or.inl ⟨by rfl, ?hy22_4⟩) (by assumption) ?rest22_4
        case hy22_4 => (intro w1 hSw; have hq := (hSw.2 k15 lk15).trans e15; go_simp; try with_reducible rfl)
        try simp only [Act.put, List.setIfInBounds_toArray, List.set_cons_zero, List.set_cons_succ]
        refine wpAnyH_take (i := 5) (oi := { dst := some 65, op := Op.move (Operand.tmp 7), type := 97, pos := "ref.go:122", after := #[{ on := 10, ground := Ground.gcOnly Departure.lateStores }], guard := none }) (v := .slice (some ⟨gA, 0, none⟩) t d) rfl (by kernel_rfl) (by kernel_rfl) (by kernel_rfl) (fun _ _ _ h => h) (Or.inl ⟨by rfl, ?hy22_5⟩) (by assumption) ?rest22_5
        case hy22_5 => (intro w hSw; (try dsimp only at hSw); go_simp; try with_reducible rfl)
        try simp only [Act.put, List.setIfInBounds_toArray, List.set_cons_zero, List.set_cons_succ]
        refine wpAnyH_take (i := 6) (oi := { dst := some 66, op := Op.move (Operand.tmp 8), type := 3, pos := "ref.go:122", after := #[{ on := 10, ground := Ground.gcOnly Departure.lateStores }], guard := none }) (v := .int .i64 (t : Int)) rfl (by kernel_rfl) (by kernel_rfl) (by kernel_rfl) (fun _ _ _ h => h) (Or.inl ⟨by rfl, ?hy22_6⟩) (by assumption) ?rest22_6
        case hy22_6 => (intro w hSw; (try dsimp only at hSw); go_simp; try with_reducible rfl)
        try simp only [Act.put, List.setIfInBounds_toArray, List.set_cons_zero, List.set_cons_succ]
        refine wpAnyH_take (i := 7) (oi := { dst := some 67, op := Op.binOp BinOp.sub 3 (Operand.tmp 66) (Operand.const (Value.int IntKind.i64 2)) 3, type := 3, pos := "ref.go:122", after := #[{ on := 6, ground := Ground.data }, { on := 10, ground := Ground.gcOnly Departure.lateStores }], guard := none }) (v := .int .i64 (k2 : Int)) rfl (by kernel_rfl) (by kernel_rfl) (by kernel_rfl) (fun _ _ _ h => h) (Or.inl ⟨by rfl, ?hy22_7⟩) (by assumption) ?rest22_7
        case hy22_7 => (intro w hSw; (try dsimp only at hSw); go_simp; try with_reducible rfl)
        try simp only [Act.put, List.setIfInBounds_toArray, List.set_cons_zero, List.set_cons_succ]
        refine wpAnyH_take (i := 8) (oi := { dst := some 68, op := Op.indexAddr 97 (Operand.tmp 65) (Operand.tmp 67), type := 0, pos := "ref.go:122", after := #[{ on := 5, ground := Ground.data }, { on := 7, ground := Ground.data }, { on := 10, ground := Ground.gcOnly Departure.lateStores }], guard := none }) (v := .pointer (some ⟨gA, k2, none⟩)) rfl (by kernel_rfl) (by kernel_rfl) (by kernel_rfl) (fun _ _ _ h => h) (Or.inl ⟨by rfl, ?hy22_8⟩) (by assumption) ?rest22_8
        case hy22_8 => (intro w hSw; (try dsimp only at hSw); go_simp; try with_reducible rfl)
        try simp only [Act.put, List.setIfInBounds_toArray, List.set_cons_zero, List.set_cons_succ]
        refine wpAnyH_take (i := 9) (oi := { dst := some 69, op := Op.load 96 (Operand.tmp 68), type := 96, pos := "ref.go:122", after := #[{ on := 8, ground := Ground.data }, { on := 10, ground := Ground.gcOnly Departure.lateStores }], guard := none }) (v := .int .u32 (N2 : Int)) rfl (by kernel_rfl) (by kernel_rfl) (by kernel_rfl) (fun _ _ _ h => h) (Or.inl ⟨by rfl, ?hy22_9⟩) (by assumption) ?rest22_9
        case hy22_9 => (intro w1 hSw; have hq := (hSw.2 k2 lk2).trans e2; go_simp; try with_reducible rfl)
        try simp only [Act.put, List.setIfInBounds_toArray, List.set_cons_zero, List.set_cons_succ]
        refine wpAnyH_take (i := 10) (oi := { dst := some 9, op := Op.assign (Operand.tmp 64), type := 96, pos := "ref.go:122", after := #[{ on := 4, ground := Ground.data }, { on := 0, ground := Ground.phase }, { on := 1, ground := Ground.phase }, { on := 2, ground := Ground.phase }, { on := 3, ground := Ground.phase }, { on := 4, ground := Ground.phase }, { on := 5, ground := Ground.textOnly Departure.lateStores }, { on := 6, ground := Ground.textOnly Departure.lateStores }, { on := 7, ground := Ground.textOnly Departure.lateStores }, { on := 8, ground := Ground.textOnly Departure.lateStores }, { on := 9, ground := Ground.textOnly Departure.lateStores }], guard := none }) (v := .int .u32 (N15 : Int)) rfl (by kernel_rfl) (by kernel_rfl) (by kernel_rfl) (fun _ _ _ h => h) (Or.inl ⟨by rfl, ?hy22_10⟩) (by assumption) ?rest22_10
        case hy22_10 => (intro w hSw; (try dsimp only at hSw); go_simp; try with_reducible rfl)
        try simp only [Act.put, List.setIfInBounds_toArray, List.set_cons_zero, List.set_cons_succ]
        refine wpAnyH_take (i := 11) (oi := { dst := some 10, op := Op.assign (Operand.tmp 69), type := 96, pos := "ref.go:122", after := #[{ on := 9, ground := Ground.data }, { on := 10, ground := Ground.chain }, { on := 0, ground := Ground.phase }, { on := 1, ground := Ground.phase }, { on := 2, ground := Ground.phase }, { on := 3, ground := Ground.phase }, { on := 4, ground := Ground.phase }, { on := 5, ground := Ground.phase }, { on := 6, ground := Ground.phase }, { on := 7, ground := Ground.phase }, { on := 8, ground := Ground.phase }, { on := 9, ground := Ground.phase }, { on := 10, ground := Ground.phase }], guard := none }) (v := .int .u32 (N2 : Int)) rfl (by kernel_rfl) (by kernel_rfl) (by kernel_rfl) (fun _ _ _ h => h) (Or.inl ⟨by rfl, ?hy22_11⟩) (by assumption) ?rest22_11
        case hy22_11 => (intro w hSw; (try dsimp only at hSw); go_simp; try with_reducible rfl)
        try simp only [Act.put, List.setIfInBounds_toArray, List.set_cons_zero, List.set_cons_succ]
        refine wpAnyH_done (by kernel_rfl) ?_ _
        go_upto_region 8 with fail
        obtain ⟨wx, hwx⟩ : ∃ z, z = wq := ⟨_, rfl⟩
        subst hwx
        have HR7 := HS
        have hdq := HO.out.drew
        clear hHeld HS HO HOq
        obtain ⟨N77, hN77⟩ : ∃ z, ((rr x15 7)).toNat = z := ⟨_, rfl⟩
        have q77 : ∀ w : World, Calls Tryd.prog 93 #[.int .u32 (N15 : Int), .int .u64 7] w fun e w' => e = .returned (.int .u32 (N77 : Int)) ∧ w = w' := fun w => by rw [← hN15, ← hN77]; exact refRotr_any _ 7 (by omega) (by omega) w
        have Q77 := Lib.hid q77
        clear q77
        obtain ⟨N79, hN79⟩ : ∃ z, ((rr x15 18)).toNat = z := ⟨_, rfl⟩
        have q79 : ∀ w : World, Calls Tryd.prog 93 #[.int .u32 (N15 : Int), .int .u64 18] w fun e w' => e = .returned (.int .u32 (N79 : Int)) ∧ w = w' := fun w => by rw [← hN15, ← hN79]; exact refRotr_any _ 18 (by omega) (by omega) w
        have Q79 := Lib.hid q79
        clear q79
        obtain ⟨N80, hN80⟩ : ∃ z, (((rr x15 7) ^^^ (rr x15 18))).toNat = z := ⟨_, rfl⟩
        have f80 : bits BinOp.xor IntKind.u32 (N77 : Int) (N79 : Int) = (N80 : Int) := by rw [← hN77, ← hN79, ← hN80]; exact xor_w _ _
        obtain ⟨N82, hN82⟩ : ∃ z, ((x15 >>> 3)).toNat = z := ⟨_, rfl⟩
        have f82 : (N15 : Int) / 8 = (N82 : Int) := by rw [← hN15, ← hN82]; exact shr3_w _
        obtain ⟨N83, hN83⟩ : ∃ z, ((((rr x15 7) ^^^ (rr x15 18)) ^^^ (x15 >>> 3))).toNat = z := ⟨_, rfl⟩
        have f83 : bits BinOp.xor IntKind.u32 (N80 : Int) (N82 : Int) = (N83 : Int) := by rw [← hN80, ← hN82, ← hN83]; exact xor_w _ _
        obtain ⟨N84, hN84⟩ : ∃ z, ((x16 + (((rr x15 7) ^^^ (rr x15 18)) ^^^ (x15 >>> 3)))).toNat = z := ⟨_, rfl⟩
        have f84 : IntKind.u32.wrap ((N16 : Int) + (N83 : Int)) = (N84 : Int) := by rw [← hN16, ← hN83, ← hN84]; rw [wrap_u32]; exact add_w _ _
        obtain ⟨N90, hN90⟩ : ∃ z, (((x16 + (((rr x15 7) ^^^ (rr x15 18)) ^^^ (x15 >>> 3))) + x7)).toNat = z := ⟨_, rfl⟩
        have f90 : IntKind.u32.wrap ((N84 : Int) + (N7 : Int)) = (N90 : Int) := by rw [← hN84, ← hN7, ← hN90]; rw [wrap_u32]; exact add_w _ _
        obtain ⟨N92, hN92⟩ : ∃ z, ((rr x2 17)).toNat = z := ⟨_, rfl⟩
        have q92 : ∀ w : World, Calls Tryd.prog 93 #[.int .u32 (N2 : Int), .int .u64 17] w fun e w' => e = .returned (.int .u32 (N92 : Int)) ∧ w = w' := fun w => by rw [← hN2, ← hN92]; exact refRotr_any _ 17 (by omega) (by omega) w
        have Q92 := Lib.hid q92
        clear q92
        obtain ⟨N94, hN94⟩ : ∃ z, ((rr x2 19)).toNat = z := ⟨_, rfl⟩
        have q94 : ∀ w : World, Calls Tryd.prog 93 #[.int .u32 (N2 : Int), .int .u64 19] w fun e w' => e = .returned (.int .u32 (N94 : Int)) ∧ w = w' := fun w => by rw [← hN2, ← hN94]; exact refRotr_any _ 19 (by omega) (by omega) w
        have Q94 := Lib.hid q94
        clear q94
        obtain ⟨N95, hN95⟩ : ∃ z, (((rr x2 17) ^^^ (rr x2 19))).toNat = z := ⟨_, rfl⟩
        have f95 : bits BinOp.xor IntKind.u32 (N92 : Int) (N94 : Int) = (N95 : Int) := by rw [← hN92, ← hN94, ← hN95]; exact xor_w _ _
        obtain ⟨N97, hN97⟩ : ∃ z, ((x2 >>> 10)).toNat = z := ⟨_, rfl⟩
        have f97 : (N2 : Int) / 1024 = (N97 : Int) := by rw [← hN2, ← hN97]; exact shr10_w _
        obtain ⟨N98, hN98⟩ : ∃ z, ((((rr x2 17) ^^^ (rr x2 19)) ^^^ (x2 >>> 10))).toNat = z := ⟨_, rfl⟩
        have f98 : bits BinOp.xor IntKind.u32 (N95 : Int) (N97 : Int) = (N98 : Int) := by rw [← hN95, ← hN97, ← hN98]; exact xor_w _ _
        obtain ⟨N99, hN99⟩ : ∃ z, ((((x16 + (((rr x15 7) ^^^ (rr x15 18)) ^^^ (x15 >>> 3))) + x7) + (((rr x2 17) ^^^ (rr x2 19)) ^^^ (x2 >>> 10)))).toNat = z := ⟨_, rfl⟩
        have f99 : IntKind.u32.wrap ((N90 : Int) + (N98 : Int)) = (N99 : Int) := by rw [← hN90, ← hN98, ← hN99]; rw [wrap_u32]; exact add_w _ _
        have hS0 : (Below w.heap.size w wx.drew ∧ ∀ j, j < t → World.cell? wx.drew ⟨gA, j, none⟩ = (wvs (wordsN L t))[j]?) := ⟨below_drew' HR7.out.1, fun j hj => HR7.out.2 j hj⟩
        obtain ⟨wq, hwq⟩ : ∃ z, wx.drew = z := ⟨_, rfl⟩
        refine wp_region_held_drew (S := fun y => (Below w.heap.size w y ∧ ∀ j, j < t → World.cell? y ⟨gA, j, none⟩ = (wvs (wordsN L t))[j]?)) (by kernel_rfl) hS0 (fun hHeld => ?_)
        rw [hwq] at hHeld hS0 hdq ⊢
        have HS := Lib.hid hS0
        have HO := Lib.hid hdq
        have HOq := HO
        clear hwq hS0 hdq
        have hgq : gA < wq.heap.size := by have := cell_lt (HS.out.2 0 (by omega) |>.trans (List.getElem?_eq_getElem (by rw [wvs_len, wordsN_len]; omega))); exact this
        skip
        refine wpAnyH_take (i := 0) (oi := { dst := some 70, op := Op.move (Operand.tmp 7), type := 97, pos := "ref.go:123", after := #[], guard := none }) (v := .slice (some ⟨gA, 0, none⟩) t d) rfl (by kernel_rfl) (by kernel_rfl) (by kernel_rfl) (fun _ _ _ h => h) (Or.inl ⟨by rfl, ?hy33_0⟩) (by assumption) ?rest33_0
        case hy33_0 => (intro w hSw; (try dsimp only at hSw); go_simp; try with_reducible rfl)
        try simp only [Act.put, List.setIfInBounds_toArray, List.set_cons_zero, List.set_cons_succ]
        refine wpAnyH_take (i := 1) (oi := { dst := some 71, op := Op.move (Operand.tmp 7), type := 97, pos := "ref.go:123", after := #[], guard := none }) (v := .slice (some ⟨gA, 0, none⟩) t d) rfl (by kernel_rfl) (by kernel_rfl) (by kernel_rfl) (fun _ _ _ h => h) (Or.inl ⟨by rfl, ?hy33_1⟩) (by assumption) ?rest33_1
        case hy33_1 => (intro w hSw; (try dsimp only at hSw); go_simp; try with_reducible rfl)
        try simp only [Act.put, List.setIfInBounds_toArray, List.set_cons_zero, List.set_cons_succ]
        refine wpAnyH_take (i := 2) (oi := { dst := some 72, op := Op.move (Operand.tmp 8), type := 3, pos := "ref.go:123", after := #[], guard := none }) (v := .int .i64 (t : Int)) rfl (by kernel_rfl) (by kernel_rfl) (by kernel_rfl) (fun _ _ _ h => h) (Or.inl ⟨by rfl, ?hy33_2⟩) (by assumption) ?rest33_2
        case hy33_2 => (intro w hSw; (try dsimp only at hSw); go_simp; try with_reducible rfl)
        try simp only [Act.put, List.setIfInBounds_toArray, List.set_cons_zero, List.set_cons_succ]
        refine wpAnyH_take (i := 3) (oi := { dst := some 73, op := Op.binOp BinOp.sub 3 (Operand.tmp 72) (Operand.const (Value.int IntKind.i64 16)) 3, type := 3, pos := "ref.go:123", after := #[{ on := 2, ground := Ground.data }], guard := none }) (v := .int .i64 (k16 : Int)) rfl (by kernel_rfl) (by kernel_rfl) (by kernel_rfl) (fun _ _ _ h => h) (Or.inl ⟨by rfl, ?hy33_3⟩) (by assumption) ?rest33_3
        case hy33_3 => (intro w hSw; (try dsimp only at hSw); go_simp; try with_reducible rfl)
        try simp only [Act.put, List.setIfInBounds_toArray, List.set_cons_zero, List.set_cons_succ]
        refine wpAnyH_take (i := 4) (oi := { dst := some 74, op := Op.indexAddr 97 (Operand.tmp 71) (Operand.tmp 73), type := 0, pos := "ref.go:123", after := #[{ on := 1, ground := Ground.data }, { on := 3, ground := Ground.data }], guard := none }) (v := .pointer (some ⟨gA, k16, none⟩)) rfl (by kernel_rfl) (by kernel_rfl) (by kernel_rfl) (fun _ _ _ h => h) (Or.inl ⟨by rfl, ?hy33_4⟩) (by assumption) ?rest33_4
        case hy33_4 => (intro w hSw; (try dsimp only at hSw); go_simp; try with_reducible rfl)
        try simp only [Act.put, List.setIfInBounds_toArray, List.set_cons_zero, List.set_cons_succ]
        refine wpAnyH_take (i := 5) (oi := { dst := some 75, op := Op.load 96 (Operand.tmp 74), type := 96, pos := "ref.go:123", after := #[{ on := 4, ground := Ground.data }], guard := none }) (v := .int .u32 (N16 : Int)) rfl (by kernel_rfl) (by kernel_rfl) (by kernel_rfl) (fun _ _ _ h => h) (Or.inl ⟨by rfl, ?hy33_5⟩) (by assumption) ?rest33_5
        case hy33_5 => (intro w1 hSw; have hq := (hSw.2 k16 lk16).trans e16; go_simp; try with_reducible rfl)
        try simp only [Act.put, List.setIfInBounds_toArray, List.set_cons_zero, List.set_cons_succ]
        refine wpAnyH_take (i := 6) (oi := { dst := some 76, op := Op.move (Operand.tmp 9), type := 96, pos := "ref.go:123", after := #[], guard := none }) (v := .int .u32 (N15 : Int)) rfl (by kernel_rfl) (by kernel_rfl) (by kernel_rfl) (fun _ _ _ h => h) (Or.inl ⟨by rfl, ?hy33_6⟩) (by assumption) ?rest33_6
        case hy33_6 => (intro w hSw; (try dsimp only at hSw); go_simp; try with_reducible rfl)
        try simp only [Act.put, List.setIfInBounds_toArray, List.set_cons_zero, List.set_cons_succ]
        refine wpAnyH_take (i := 8) (oi := { dst := some 78, op := Op.move (Operand.tmp 9), type := 96, pos := "ref.go:123", after := #[], guard := none }) (v := .int .u32 (N15 : Int)) rfl (by kernel_rfl) (by kernel_rfl) (by kernel_rfl) (fun _ _ _ h => h) (Or.inl ⟨by rfl, ?hy33_8⟩) (by assumption) ?rest33_8
        case hy33_8 => (intro w hSw; (try dsimp only at hSw); go_simp; try with_reducible rfl)
        try simp only [Act.put, List.setIfInBounds_toArray, List.set_cons_zero, List.set_cons_succ]
        refine wpAnyH_take (i := 11) (oi := { dst := some 81, op := Op.move (Operand.tmp 9), type := 96, pos := "ref.go:123", after := #[], guard := none }) (v := .int .u32 (N15 : Int)) rfl (by kernel_rfl) (by kernel_rfl) (by kernel_rfl) (fun _ _ _ h => h) (Or.inl ⟨by rfl, ?hy33_11⟩) (by assumption) ?rest33_11
        case hy33_11 => (intro w hSw; (try dsimp only at hSw); go_simp; try with_reducible rfl)
        try simp only [Act.put, List.setIfInBounds_toArray, List.set_cons_zero, List.set_cons_succ]
        refine wpAnyH_take (i := 12) (oi := { dst := some 82, op := Op.binOp BinOp.shr 96 (Operand.tmp 81) (Operand.const (Value.int IntKind.u64 3)) 51, type := 96, pos := "ref.go:123", after := #[{ on := 11, ground := Ground.data }], guard := none }) (v := .int .u32 (N82 : Int)) rfl (by kernel_rfl) (by kernel_rfl) (by kernel_rfl) (fun _ _ _ h => h) (Or.inl ⟨by rfl, ?hy33_12⟩) (by assumption) ?rest33_12
        case hy33_12 => (intro w hSw; (try dsimp only at hSw); go_simp; try with_reducible rfl)
        try simp only [Act.put, List.setIfInBounds_toArray, List.set_cons_zero, List.set_cons_succ]
        refine wpAnyH_take (i := 15) (oi := { dst := some 85, op := Op.move (Operand.tmp 7), type := 97, pos := "ref.go:123", after := #[], guard := none }) (v := .slice (some ⟨gA, 0, none⟩) t d) rfl (by kernel_rfl) (by kernel_rfl) (by kernel_rfl) (fun _ _ _ h => h) (Or.inl ⟨by rfl, ?hy33_15⟩) (by assumption) ?rest33_15
        case hy33_15 => (intro w hSw; (try dsimp only at hSw); go_simp; try with_reducible rfl)
        try simp only [Act.put, List.setIfInBounds_toArray, List.set_cons_zero, List.set_cons_succ]
        refine wpAnyH_take (i := 16) (oi := { dst := some 86, op := Op.move (Operand.tmp 8), type := 3, pos := "ref.go:123", after := #[], guard := none }) (v := .int .i64 (t : Int)) rfl (by kernel_rfl) (by kernel_rfl) (by kernel_rfl) (fun _ _ _ h => h) (Or.inl ⟨by rfl, ?hy33_16⟩) (by assumption) ?rest33_16
        case hy33_16 => (intro w hSw; (try dsimp only at hSw); go_simp; try with_reducible rfl)
        try simp only [Act.put, List.setIfInBounds_toArray, List.set_cons_zero, List.set_cons_succ]
        refine wpAnyH_take (i := 17) (oi := { dst := some 87, op := Op.binOp BinOp.sub 3 (Operand.tmp 86) (Operand.const (Value.int IntKind.i64 7)) 3, type := 3, pos := "ref.go:123", after := #[{ on := 16, ground := Ground.data }], guard := none }) (v := .int .i64 (k7 : Int)) rfl (by kernel_rfl) (by kernel_rfl) (by kernel_rfl) (fun _ _ _ h => h) (Or.inl ⟨by rfl, ?hy33_17⟩) (by assumption) ?rest33_17
        case hy33_17 => (intro w hSw; (try dsimp only at hSw); go_simp; try with_reducible rfl)
        try simp only [Act.put, List.setIfInBounds_toArray, List.set_cons_zero, List.set_cons_succ]
        refine wpAnyH_take (i := 18) (oi := { dst := some 88, op := Op.indexAddr 97 (Operand.tmp 85) (Operand.tmp 87), type := 0, pos := "ref.go:123", after := #[{ on := 15, ground := Ground.data }, { on := 17, ground := Ground.data }], guard := none }) (v := .pointer (some ⟨gA, k7, none⟩)) rfl (by kernel_rfl) (by kernel_rfl) (by kernel_rfl) (fun _ _ _ h => h) (Or.inl ⟨by rfl, ?hy33_18⟩) (by assumption) ?rest33_18
        case hy33_18 => (intro w hSw; (try dsimp only at hSw); go_simp; try with_reducible rfl)
        try simp only [Act.put, List.setIfInBounds_toArray, List.set_cons_zero, List.set_cons_succ]
        refine wpAnyH_take (i := 19) (oi := { dst := some 89, op := Op.load 96 (Operand.tmp 88), type := 96, pos := "ref.go:123", after := #[{ on := 18, ground := Ground.data }], guard := none }) (v := .int .u32 (N7 : Int)) rfl (by kernel_rfl) (by kernel_rfl) (by kernel_rfl) (fun _ _ _ h => h) (Or.inl ⟨by rfl, ?hy33_19⟩) (by assumption) ?rest33_19
        case hy33_19 => (intro w1 hSw; have hq := (hSw.2 k7 lk7).trans e7; go_simp; try with_reducible rfl)
        try simp only [Act.put, List.setIfInBounds_toArray, List.set_cons_zero, List.set_cons_succ]
        refine wpAnyH_take (i := 21) (oi := { dst := some 91, op := Op.move (Operand.tmp 10), type := 96, pos := "ref.go:123", after := #[], guard := none }) (v := .int .u32 (N2 : Int)) rfl (by kernel_rfl) (by kernel_rfl) (by kernel_rfl) (fun _ _ _ h => h) (Or.inl ⟨by rfl, ?hy33_21⟩) (by assumption) ?rest33_21
        case hy33_21 => (intro w hSw; (try dsimp only at hSw); go_simp; try with_reducible rfl)
        try simp only [Act.put, List.setIfInBounds_toArray, List.set_cons_zero, List.set_cons_succ]
        refine wpAnyH_take (i := 23) (oi := { dst := some 93, op := Op.move (Operand.tmp 10), type := 96, pos := "ref.go:123", after := #[], guard := none }) (v := .int .u32 (N2 : Int)) rfl (by kernel_rfl) (by kernel_rfl) (by kernel_rfl) (fun _ _ _ h => h) (Or.inl ⟨by rfl, ?hy33_23⟩) (by assumption) ?rest33_23
        case hy33_23 => (intro w hSw; (try dsimp only at hSw); go_simp; try with_reducible rfl)
        try simp only [Act.put, List.setIfInBounds_toArray, List.set_cons_zero, List.set_cons_succ]
        refine wpAnyH_take (i := 26) (oi := { dst := some 96, op := Op.move (Operand.tmp 10), type := 96, pos := "ref.go:123", after := #[], guard := none }) (v := .int .u32 (N2 : Int)) rfl (by kernel_rfl) (by kernel_rfl) (by kernel_rfl) (fun _ _ _ h => h) (Or.inl ⟨by rfl, ?hy33_26⟩) (by assumption) ?rest33_26
        case hy33_26 => (intro w hSw; (try dsimp only at hSw); go_simp; try with_reducible rfl)
        try simp only [Act.put, List.setIfInBounds_toArray, List.set_cons_zero, List.set_cons_succ]
        refine wpAnyH_take (i := 27) (oi := { dst := some 97, op := Op.binOp BinOp.shr 96 (Operand.tmp 96) (Operand.const (Value.int IntKind.u64 10)) 51, type := 96, pos := "ref.go:123", after := #[{ on := 26, ground := Ground.data }], guard := none }) (v := .int .u32 (N97 : Int)) rfl (by kernel_rfl) (by kernel_rfl) (by kernel_rfl) (fun _ _ _ h => h) (Or.inl ⟨by rfl, ?hy33_27⟩) (by assumption) ?rest33_27
        case hy33_27 => (intro w hSw; (try dsimp only at hSw); go_simp; try with_reducible rfl)
        try simp only [Act.put, List.setIfInBounds_toArray, List.set_cons_zero, List.set_cons_succ]
        refine wpAnyH_ready (rs := [7]) (by kernel_rfl) (by simp) ?_
        refine AllReadyH.cons (o := { dst := some 77, op := Op.call { callee := Callee.value (Operand.func 93), args := #[Operand.tmp 76, Operand.const (Value.int IntKind.u64 7)], argTypes := #[96, 51] }, type := 96, pos := "ref.go:123", after := #[{ on := 6, ground := Ground.data }], guard := none }) rfl (fun K hK => ?_) AllReadyH.nil
        go_simp
        refine (Q77.out _).mono ?_
        rintro e w' ⟨rfl, rfl⟩
        refine hK.out _ _ (by assumption) (fun _ => ?_)
        clear hK K
        try simp only [Act.put, List.setIfInBounds_toArray, List.set_cons_zero, List.set_cons_succ]
        refine wpAnyH_ready (rs := [9]) (by kernel_rfl) (by simp) ?_
        refine AllReadyH.cons (o := { dst := some 79, op := Op.call { callee := Callee.value (Operand.func 93), args := #[Operand.tmp 78, Operand.const (Value.int IntKind.u64 18)], argTypes := #[96, 51] }, type := 96, pos := "ref.go:123", after := #[{ on := 8, ground := Ground.data }, { on := 7, ground := Ground.chain }], guard := none }) rfl (fun K hK => ?_) AllReadyH.nil
        go_simp
        refine (Q79.out _).mono ?_
        rintro e w' ⟨rfl, rfl⟩
        refine hK.out _ _ (by assumption) (fun _ => ?_)
        clear hK K
        try simp only [Act.put, List.setIfInBounds_toArray, List.set_cons_zero, List.set_cons_succ]
        refine wpAnyH_take (i := 10) (oi := { dst := some 80, op := Op.binOp BinOp.xor 96 (Operand.tmp 77) (Operand.tmp 79) 96, type := 96, pos := "ref.go:123", after := #[{ on := 7, ground := Ground.data }, { on := 9, ground := Ground.data }], guard := none }) (v := .int .u32 (N80 : Int)) rfl (by kernel_rfl) (by kernel_rfl) (by kernel_rfl) (fun _ _ _ h => h) (Or.inl ⟨by rfl, ?hy33_10⟩) (by assumption) ?rest33_10
        case hy33_10 => (intro w hSw; (try dsimp only at hSw); go_simp; try with_reducible rfl)
        try simp only [Act.put, List.setIfInBounds_toArray, List.set_cons_zero, List.set_cons_succ]
        refine wpAnyH_take (i := 13) (oi := { dst := some 83, op := Op.binOp BinOp.xor 96 (Operand.tmp 80) (Operand.tmp 82) 96, type := 96, pos := "ref.go:123", after := #[{ on := 10, ground := Ground.data }, { on := 12, ground := Ground.data }], guard := none }) (v := .int .u32 (N83 : Int)) rfl (by kernel_rfl) (by kernel_rfl) (by kernel_rfl) (fun _ _ _ h => h) (Or.inl ⟨by rfl, ?hy33_13⟩) (by assumption) ?rest33_13
        case hy33_13 => (intro w hSw; (try dsimp only at hSw); go_simp; try with_reducible rfl)
        try simp only [Act.put, List.setIfInBounds_toArray, List.set_cons_zero, List.set_cons_succ]
        refine wpAnyH_take (i := 14) (oi := { dst := some 84, op := Op.binOp BinOp.add 96 (Operand.tmp 75) (Operand.tmp 83) 96, type := 96, pos := "ref.go:123", after := #[{ on := 5, ground := Ground.data }, { on := 13, ground := Ground.data }], guard := none }) (v := .int .u32 (N84 : Int)) rfl (by kernel_rfl) (by kernel_rfl) (by kernel_rfl) (fun _ _ _ h => h) (Or.inl ⟨by rfl, ?hy33_14⟩) (by assumption) ?rest33_14
        case hy33_14 => (intro w hSw; (try dsimp only at hSw); go_simp; try with_reducible rfl)
        try simp only [Act.put, List.setIfInBounds_toArray, List.set_cons_zero, List.set_cons_succ]
        refine wpAnyH_take (i := 20) (oi := { dst := some 90, op := Op.binOp BinOp.add 96 (Operand.tmp 84) (Operand.tmp 89) 96, type := 96, pos := "ref.go:123", after := #[{ on := 14, ground := Ground.data }, { on := 19, ground := Ground.data }], guard := none }) (v := .int .u32 (N90 : Int)) rfl (by kernel_rfl) (by kernel_rfl) (by kernel_rfl) (fun _ _ _ h => h) (Or.inl ⟨by rfl, ?hy33_20⟩) (by assumption) ?rest33_20
        case hy33_20 => (intro w hSw; (try dsimp only at hSw); go_simp; try with_reducible rfl)
        try simp only [Act.put, List.setIfInBounds_toArray, List.set_cons_zero, List.set_cons_succ]
        refine wpAnyH_ready (rs := [22]) (by kernel_rfl) (by simp) ?_
        refine AllReadyH.cons (o := { dst := some 92, op := Op.call { callee := Callee.value (Operand.func 93), args := #[Operand.tmp 91, Operand.const (Value.int IntKind.u64 17)], argTypes := #[96, 51] }, type := 96, pos := "ref.go:123", after := #[{ on := 21, ground := Ground.data }, { on := 9, ground := Ground.chain }], guard := none }) rfl (fun K hK => ?_) AllReadyH.nil
        go_simp
        refine (Q92.out _).mono ?_
        rintro e w' ⟨rfl, rfl⟩
        refine hK.out _ _ (by assumption) (fun _ => ?_)
        clear hK K
        try simp only [Act.put, List.setIfInBounds_toArray, List.set_cons_zero, List.set_cons_succ]
        refine wpAnyH_ready (rs := [24]) (by kernel_rfl) (by simp) ?_
        refine AllReadyH.cons (o := { dst := some 94, op := Op.call { callee := Callee.value (Operand.func 93), args := #[Operand.tmp 93, Operand.const (Value.int IntKind.u64 19)], argTypes := #[96, 51] }, type := 96, pos := "ref.go:123", after := #[{ on := 23, ground := Ground.data }, { on := 22, ground := Ground.chain }], guard := none }) rfl (fun K hK => ?_) AllReadyH.nil
        go_simp
        refine (Q94.out _).mono ?_
        rintro e w' ⟨rfl, rfl⟩
        refine hK.out _ _ (by assumption) (fun _ => ?_)
        clear hK K
        try simp only [Act.put, List.setIfInBounds_toArray, List.set_cons_zero, List.set_cons_succ]
        refine wpAnyH_take (i := 25) (oi := { dst := some 95, op := Op.binOp BinOp.xor 96 (Operand.tmp 92) (Operand.tmp 94) 96, type := 96, pos := "ref.go:123", after := #[{ on := 22, ground := Ground.data }, { on := 24, ground := Ground.data }], guard := none }) (v := .int .u32 (N95 : Int)) rfl (by kernel_rfl) (by kernel_rfl) (by kernel_rfl) (fun _ _ _ h => h) (Or.inl ⟨by rfl, ?hy33_25⟩) (by assumption) ?rest33_25
        case hy33_25 => (intro w hSw; (try dsimp only at hSw); go_simp; try with_reducible rfl)
        try simp only [Act.put, List.setIfInBounds_toArray, List.set_cons_zero, List.set_cons_succ]
        refine wpAnyH_take (i := 28) (oi := { dst := some 98, op := Op.binOp BinOp.xor 96 (Operand.tmp 95) (Operand.tmp 97) 96, type := 96, pos := "ref.go:123", after := #[{ on := 25, ground := Ground.data }, { on := 27, ground := Ground.data }], guard := none }) (v := .int .u32 (N98 : Int)) rfl (by kernel_rfl) (by kernel_rfl) (by kernel_rfl) (fun _ _ _ h => h) (Or.inl ⟨by rfl, ?hy33_28⟩) (by assumption) ?rest33_28
        case hy33_28 => (intro w hSw; (try dsimp only at hSw); go_simp; try with_reducible rfl)
        try simp only [Act.put, List.setIfInBounds_toArray, List.set_cons_zero, List.set_cons_succ]
        refine wpAnyH_take (i := 29) (oi := { dst := some 99, op := Op.binOp BinOp.add 96 (Operand.tmp 90) (Operand.tmp 98) 96, type := 96, pos := "ref.go:123", after := #[{ on := 20, ground := Ground.data }, { on := 28, ground := Ground.data }], guard := none }) (v := .int .u32 (N99 : Int)) rfl (by kernel_rfl) (by kernel_rfl) (by kernel_rfl) (fun _ _ _ h => h) (Or.inl ⟨by rfl, ?hy33_29⟩) (by assumption) ?rest33_29
        case hy33_29 => (intro w hSw; (try dsimp only at hSw); go_simp; try with_reducible rfl)
        try simp only [Act.put, List.setIfInBounds_toArray, List.set_cons_zero, List.set_cons_succ]
        refine wpAnyH_ready (rs := [30]) (by kernel_rfl) (by simp) ?_
        refine AllReadyH.cons (o := { dst := some 100, op := Op.buildSlice 97 1 #[(0, Operand.tmp 99)], type := 97, pos := "ref.go:123", after := #[{ on := 29, ground := Ground.data }], guard := none }) rfl (fun K hK => ?_) AllReadyH.nil
        refine (if_pos (by rfl)).mpr ?_
        unfold Oper.wp
        go_simp
        have hV0 : (Below w.heap.size w (wq.alloc (.cells #[.int .u32 (N99 : Int)] 96)) ∧ ∀ j, j < t → World.cell? (wq.alloc (.cells #[.int .u32 (N99 : Int)] 96)) ⟨gA, j, none⟩ = (wvs (wordsN L t))[j]?) := ⟨HS.out.1.alloc HS.out.1.size _, fun j hj => (((Below.refl wq.heap.size wq).alloc (Nat.le_refl _) _).cell (p := ⟨gA, j, none⟩) hgq).trans (HS.out.2 j hj)⟩
        refine hK.out _ _ hV0 (fun _ => ?_)
        clear hK K
        try simp only [Act.put, List.setIfInBounds_toArray, List.set_cons_zero, List.set_cons_succ]
        refine wpAnyH_ready (rs := [31]) (by kernel_rfl) (by simp) ?_
        refine AllReadyH.cons (o := { dst := some 101, op := Op.call { callee := Callee.builtin Builtin.append, args := #[Operand.tmp 70, Operand.tmp 100], argTypes := #[97, 97] }, type := 97, pos := "ref.go:123", after := #[{ on := 0, ground := Ground.data }, { on := 30, ground := Ground.data }, { on := 24, ground := Ground.chain }], guard := none }) rfl (fun K hK => ?_) AllReadyH.nil
        refine step_app_keep u32tyB rfl (.tmp 70) (.tmp 100) rfl rfl rfl ((HOq.out).alloc _) (Rd.one _ _ _) (one1 rfl) (by omega) (by omega) (by simp; have := (HS.out).1.size; omega) (by omega) ?_
        intro A3 n3 d3 w3 ho3 hn3 hb3 hk3
        have hb33 := hV0.1.trans hb3
        refine hK.out _ _ ⟨hb33, hk3⟩ (fun _ => ?_)
        clear hK K
        try simp only [Act.put, List.setIfInBounds_toArray, List.set_cons_zero, List.set_cons_succ]
        refine wpAnyH_take (i := 32) (oi := { dst := some 7, op := Op.assign (Operand.tmp 101), type := 97, pos := "ref.go:123", after := #[{ on := 31, ground := Ground.data }, { on := 31, ground := Ground.chain }, { on := 0, ground := Ground.phase }, { on := 1, ground := Ground.phase }, { on := 2, ground := Ground.phase }, { on := 3, ground := Ground.phase }, { on := 4, ground := Ground.phase }, { on := 5, ground := Ground.phase }, { on := 6, ground := Ground.phase }, { on := 7, ground := Ground.phase }, { on := 8, ground := Ground.phase }, { on := 9, ground := Ground.phase }, { on := 10, ground := Ground.phase }, { on := 11, ground := Ground.phase }, { on := 12, ground := Ground.phase }, { on := 13, ground := Ground.phase }, { on := 14, ground := Ground.phase }, { on := 15, ground := Ground.phase }, { on := 16, ground := Ground.phase }, { on := 17, ground := Ground.phase }, { on := 18, ground := Ground.phase }, { on := 19, ground := Ground.phase }, { on := 20, ground := Ground.phase }, { on := 21, ground := Ground.phase }, { on := 22, ground := Ground.phase }, { on := 23, ground := Ground.phase }, { on := 24, ground := Ground.phase }, { on := 25, ground := Ground.phase }, { on := 26, ground := Ground.phase }, { on := 27, ground := Ground.phase }, { on := 28, ground := Ground.phase }, { on := 29, ground := Ground.phase }, { on := 30, ground := Ground.phase }, { on := 31, ground := Ground.phase }], guard := none }) (v := .slice A3 n3 d3) rfl (by kernel_rfl) (by kernel_rfl) (by kernel_rfl) (fun _ _ _ h => h) (Or.inl ⟨by rfl, ?hy33_32⟩) (by assumption) ?rest33_32
        case hy33_32 => (intro w hSw; (try dsimp only at hSw); go_simp; try with_reducible rfl)
        try simp only [Act.put, List.setIfInBounds_toArray, List.set_cons_zero, List.set_cons_succ]
        refine wpAnyH_done (by kernel_rfl) ?_ _
        clear f80 f82 f83 f84 f90 f95 f97 f98 f99
        go_wp2_with fail
        subst hn3
        have hwn : wvs (wordsN L (t + 1)) = wvs (wordsN L t) ++ [.int .u32 (N99 : Int)] := by
          rw [show wordsN L (t + 1) = wordsN L t ++ [made (wordsN L t) t] by rw [wordsN, if_neg h16], HMADE.out, ← hN99]
          simp [wvs, wv, far, near]
        rw [← hwn] at ho3
        exact ⟨⟨t + 1, A3, d3, rfl, by go_num, by omega, Lib.hid ⟨ho3, hb33⟩⟩, by simp [intOf]; omega⟩
    · obtain rfl : t = 64 := by omega
      have k64n : ¬ ((64 : Nat) : Int) < 64 := by omega
      obtain ⟨wo, hwo⟩ : ∃ z, z = wr := ⟨_, rfl⟩
      subst hwo
      have hlit := Ow.lit0 wo 96 (Nat.le_refl wo.heap.size)
      have hXb : Below wo.heap.size wo (wo.alloc (.cells #[] 96)) := (Below.refl _ _).alloc (Nat.le_refl _) _
      have hsr := (H.out.1.below (HR.out.2.trans (hXb.mono hws)) hB)
      have HRW := Lib.hid (And.intro HR.out.1.rd HR.out.2)
      have HXB := Lib.hid hXb
      clear hXb
      go_upto_region 11 with (at_builtin; refine wp_app u32tyB rfl (.tmp 103) (.tmp 104) rfl rfl rfl hlit hsr (wvs_one _) (by omega) (by omega) (by simp) ?_; intro A4 N4 d4 w4 ho4 hN4 hb4 hg4)
      have hN48 : N4 = 8 := by have := ho4.len; rw [List.nil_append, wvs_len] at this; exact this.symm
      subst hN48
      rw [List.nil_append] at ho4
      have H4 := Lib.hid (And.intro ho4 (HXB.out.trans hb4))
      clear ho4 hb4 hg4 hlit hsr
      go_wp2_with fail
      go_loopw [11, 106] (fun v i wr => ∃ (t : Nat) (A : Option Addr) (d : Nat), v = .slice A 8 d ∧ i = .int .i64 (t : Int) ∧ t ≤ 64 ∧ Hid (Ow wr wo.heap.size 96 A 8 d (wvs (stL (roundsN st cubes (wordsN L 64) t))) ∧ Below wo.heap.size wo wr)) (fun _ i _ => 64 - (intOf i).toNat)
      case atStart => exact ⟨0, A4, d4, rfl, rfl, by omega, Lib.hid ⟨H4.out.1, H4.out.2⟩⟩
      case round =>
        obtain ⟨t, Av, dv, rfl, rfl, ht, HV⟩ := hrel
        by_cases hlt2 : t < 64
        · have k64 : (t : Int) < 64 := by omega
          have hrd := HRW.out.1.below HV.out.2 (Nat.le_refl _)
          have hkd := H.out.2.1.below (HRW.out.2.trans (HV.out.2.mono HRW.out.2.size)) hB
          obtain ⟨gV, rfl, hgV1, hgV2⟩ := HV.out.1.at0 (by omega)
          obtain ⟨bk, ok, rfl, hbk, hck⟩ := hkd.at_ hlt2
          obtain ⟨bw, ow, rfl, hbw, hcw⟩ := hrd.at_ hlt2
          have hvc : ∀ j v, (wvs (stL (roundsN st cubes (wordsN L 64) t)))[j]? = some v → wr.cell? ⟨gV, j, none⟩ = some v := fun j v hv => by
            have := World.ownsRow.cells HV.out.1 (g := gV) rfl j v hv
            rwa [Addr.add_lit, Nat.zero_add] at this
          rw [wvs_at cubes t (by show t < 64; exact hlt2)] at hck
          rw [wvs_at (wordsN L 64) t (by rw [wordsN_len]; exact hlt2)] at hcw
          have hRn : roundsN st cubes (wordsN L 64) (t + 1) = DM.step (roundsN st cubes (wordsN L 64) t) (cubes.getD t 0) ((wordsN L 64).getD t 0) := rfl
          have hov := HV.out.1
          have hbv := HV.out.2
          obtain ⟨R, hR⟩ : ∃ R, roundsN st cubes (wordsN L 64) t = R := ⟨_, rfl⟩
          obtain ⟨K, hK0⟩ : ∃ K, cubes.getD t 0 = K := ⟨_, rfl⟩
          obtain ⟨X, hX0⟩ : ∃ X, (wordsN L 64).getD t 0 = X := ⟨_, rfl⟩
          rw [hR] at hvc hRn hov
          rw [hK0] at hck hRn
          rw [hX0] at hcw hRn
          have ca := hvc 0 _ rfl
          have cb := hvc 1 _ rfl
          have cc := hvc 2 _ rfl
          have cd := hvc 3 _ rfl
          have ce := hvc 4 _ rfl
          have cf := hvc 5 _ rfl
          have cg := hvc 6 _ rfl
          have ch := hvc 7 _ rfl
          unfold wv at ca cb cc cd ce cf cg ch hck hcw
          obtain ⟨Na, hNa⟩ : ∃ z, R.a.toNat = z := ⟨_, rfl⟩
          rw [hNa] at ca
          obtain ⟨Nb, hNb⟩ : ∃ z, R.b.toNat = z := ⟨_, rfl⟩
          rw [hNb] at cb
          obtain ⟨Nc, hNc⟩ : ∃ z, R.c.toNat = z := ⟨_, rfl⟩
          rw [hNc] at cc
          obtain ⟨Nd, hNd⟩ : ∃ z, R.d.toNat = z := ⟨_, rfl⟩
          rw [hNd] at cd
          obtain ⟨Ne, hNe⟩ : ∃ z, R.e.toNat = z := ⟨_, rfl⟩
          rw [hNe] at ce
          obtain ⟨Nf, hNf⟩ : ∃ z, R.f.toNat = z := ⟨_, rfl⟩
          rw [hNf] at cf
          obtain ⟨Ng, hNg⟩ : ∃ z, R.g.toNat = z := ⟨_, rfl⟩
          rw [hNg] at cg
          obtain ⟨Nh, hNh⟩ : ∃ z, R.h.toNat = z := ⟨_, rfl⟩
          rw [hNh] at ch
          obtain ⟨NK, hNK⟩ : ∃ z, K.toNat = z := ⟨_, rfl⟩
          rw [hNK] at hck
          obtain ⟨NX, hNX⟩ : ∃ z, X.toNat = z := ⟨_, rfl⟩
          rw [hNX] at hcw
          have hNdk := hNd
          have hdv := hov.cap.1
          have HRN := Lib.hid hRn
          have HOV := Lib.hid hov
          have hbkr : bk < wr.heap.size := by have := hbv.size; omega
          clear hvc hRn hov hR hK0 hX0 hrd hkd
          go_upto_region 14 with fail
          have hdq := HOV.out.drew
          have hS0 : Below wr.heap.size wr wr.drew := below_drew' (Below.refl _ _)
          obtain ⟨wq, hwq⟩ : ∃ z, wr.drew = z := ⟨_, rfl⟩
          refine wp_region_held_drew (S := fun y => Below wr.heap.size wr y) (by kernel_rfl) hS0 (fun hHeld => ?_)
          rw [hwq] at hHeld hS0 hdq ⊢
          have HS := Lib.hid hS0
          have HO := Lib.hid hdq
          have HOq := HO
          clear hwq hS0 hdq
          refine wpAnyH_take (i := 0) (oi := { dst := some 109, op := Op.move (Operand.tmp 11), type := 97, pos := "ref.go:127", after := #[], guard := none }) (v := .slice (some ⟨gV, 0, none⟩) 8 dv) rfl (by kernel_rfl) (by kernel_rfl) (by kernel_rfl) (fun _ _ _ h => h) (Or.inl ⟨by rfl, ?hy44_0⟩) (by assumption) ?rest44_0
          case hy44_0 => (intro w hSw; (try dsimp only at hSw); go_simp; try with_reducible rfl)
          try simp only [Act.put, List.setIfInBounds_toArray, List.set_cons_zero, List.set_cons_succ]
          refine wpAnyH_take (i := 1) (oi := { dst := some 110, op := Op.indexAddr 97 (Operand.tmp 109) (Operand.const (Value.int IntKind.i64 0)), type := 0, pos := "ref.go:127", after := #[{ on := 0, ground := Ground.data }], guard := none }) (v := .pointer (some ⟨gV, 0, none⟩)) rfl (by kernel_rfl) (by kernel_rfl) (by kernel_rfl) (fun _ _ _ h => h) (Or.inl ⟨by rfl, ?hy44_1⟩) (by assumption) ?rest44_1
          case hy44_1 => (intro w hSw; (try dsimp only at hSw); go_simp; try with_reducible rfl)
          try simp only [Act.put, List.setIfInBounds_toArray, List.set_cons_zero, List.set_cons_succ]
          refine wpAnyH_take (i := 2) (oi := { dst := some 111, op := Op.load 96 (Operand.tmp 110), type := 96, pos := "ref.go:127", after := #[{ on := 1, ground := Ground.data }], guard := none }) (v := .int .u32 (Na : Int)) rfl (by kernel_rfl) (by kernel_rfl) (by kernel_rfl) (fun _ _ _ h => h) (Or.inl ⟨by rfl, ?hy44_2⟩) (by assumption) ?rest44_2
          case hy44_2 => (intro w1 hSw; have hq := (Below.cell hSw (p := ⟨gV, 0, none⟩) hgV2).trans ca; go_simp; try with_reducible rfl)
          try simp only [Act.put, List.setIfInBounds_toArray, List.set_cons_zero, List.set_cons_succ]
          refine wpAnyH_take (i := 3) (oi := { dst := some 112, op := Op.move (Operand.tmp 11), type := 97, pos := "ref.go:127", after := #[{ on := 6, ground := Ground.gcOnly Departure.lateStores }], guard := none }) (v := .slice (some ⟨gV, 0, none⟩) 8 dv) rfl (by kernel_rfl) (by kernel_rfl) (by kernel_rfl) (fun _ _ _ h => h) (Or.inl ⟨by rfl, ?hy44_3⟩) (by assumption) ?rest44_3
          case hy44_3 => (intro w hSw; (try dsimp only at hSw); go_simp; try with_reducible rfl)
          try simp only [Act.put, List.setIfInBounds_toArray, List.set_cons_zero, List.set_cons_succ]
          refine wpAnyH_take (i := 4) (oi := { dst := some 113, op := Op.indexAddr 97 (Operand.tmp 112) (Operand.const (Value.int IntKind.i64 4)), type := 0, pos := "ref.go:127", after := #[{ on := 3, ground := Ground.data }, { on := 6, ground := Ground.gcOnly Departure.lateStores }], guard := none }) (v := .pointer (some ⟨gV, 4, none⟩)) rfl (by kernel_rfl) (by kernel_rfl) (by kernel_rfl) (fun _ _ _ h => h) (Or.inl ⟨by rfl, ?hy44_4⟩) (by assumption) ?rest44_4
          case hy44_4 => (intro w hSw; (try dsimp only at hSw); go_simp; try with_reducible rfl)
          try simp only [Act.put, List.setIfInBounds_toArray, List.set_cons_zero, List.set_cons_succ]
          refine wpAnyH_take (i := 5) (oi := { dst := some 114, op := Op.load 96 (Operand.tmp 113), type := 96, pos := "ref.go:127", after := #[{ on := 4, ground := Ground.data }, { on := 6, ground := Ground.gcOnly Departure.lateStores }], guard := none }) (v := .int .u32 (Ne : Int)) rfl (by kernel_rfl) (by kernel_rfl) (by kernel_rfl) (fun _ _ _ h => h) (Or.inl ⟨by rfl, ?hy44_5⟩) (by assumption) ?rest44_5
          case hy44_5 => (intro w1 hSw; have hq := (Below.cell hSw (p := ⟨gV, 4, none⟩) hgV2).trans ce; go_simp; try with_reducible rfl)
          try simp only [Act.put, List.setIfInBounds_toArray, List.set_cons_zero, List.set_cons_succ]
          refine wpAnyH_take (i := 6) (oi := { dst := some 13, op := Op.assign (Operand.tmp 111), type := 96, pos := "ref.go:127", after := #[{ on := 2, ground := Ground.data }, { on := 0, ground := Ground.phase }, { on := 1, ground := Ground.phase }, { on := 2, ground := Ground.phase }, { on := 3, ground := Ground.textOnly Departure.lateStores }, { on := 4, ground := Ground.textOnly Departure.lateStores }, { on := 5, ground := Ground.textOnly Departure.lateStores }], guard := none }) (v := .int .u32 (Na : Int)) rfl (by kernel_rfl) (by kernel_rfl) (by kernel_rfl) (fun _ _ _ h => h) (Or.inl ⟨by rfl, ?hy44_6⟩) (by assumption) ?rest44_6
          case hy44_6 => (intro w hSw; (try dsimp only at hSw); go_simp; try with_reducible rfl)
          try simp only [Act.put, List.setIfInBounds_toArray, List.set_cons_zero, List.set_cons_succ]
          refine wpAnyH_take (i := 7) (oi := { dst := some 14, op := Op.assign (Operand.tmp 114), type := 96, pos := "ref.go:127", after := #[{ on := 5, ground := Ground.data }, { on := 6, ground := Ground.chain }, { on := 0, ground := Ground.phase }, { on := 1, ground := Ground.phase }, { on := 2, ground := Ground.phase }, { on := 3, ground := Ground.phase }, { on := 4, ground := Ground.phase }, { on := 5, ground := Ground.phase }, { on := 6, ground := Ground.phase }], guard := none }) (v := .int .u32 (Ne : Int)) rfl (by kernel_rfl) (by kernel_rfl) (by kernel_rfl) (fun _ _ _ h => h) (Or.inl ⟨by rfl, ?hy44_7⟩) (by assumption) ?rest44_7
          case hy44_7 => (intro w hSw; (try dsimp only at hSw); go_simp; try with_reducible rfl)
          try simp only [Act.put, List.setIfInBounds_toArray, List.set_cons_zero, List.set_cons_succ]
          refine wpAnyH_done (by kernel_rfl) ?_ _
          go_upto_region 15 with fail
          obtain ⟨wx, hwx⟩ : ∃ z, z = wq := ⟨_, rfl⟩
          subst hwx
          have HS7 := HS
          have hdq := HO.out.drew
          clear hHeld HS HO HOq
          obtain ⟨N119, hN119⟩ : ∃ z, ((rr R.e 6)).toNat = z := ⟨_, rfl⟩
          have q119 : ∀ w : World, Calls Tryd.prog 93 #[.int .u32 (Ne : Int), .int .u64 6] w fun e w' => e = .returned (.int .u32 (N119 : Int)) ∧ w = w' := fun w => by rw [← hNe, ← hN119]; exact refRotr_any _ 6 (by omega) (by omega) w
          have Q119 := Lib.hid q119
          clear q119
          obtain ⟨N121, hN121⟩ : ∃ z, ((rr R.e 11)).toNat = z := ⟨_, rfl⟩
          have q121 : ∀ w : World, Calls Tryd.prog 93 #[.int .u32 (Ne : Int), .int .u64 11] w fun e w' => e = .returned (.int .u32 (N121 : Int)) ∧ w = w' := fun w => by rw [← hNe, ← hN121]; exact refRotr_any _ 11 (by omega) (by omega) w
          have Q121 := Lib.hid q121
          clear q121
          obtain ⟨N122, hN122⟩ : ∃ z, (((rr R.e 6) ^^^ (rr R.e 11))).toNat = z := ⟨_, rfl⟩
          have f122 : bits BinOp.xor IntKind.u32 (N119 : Int) (N121 : Int) = (N122 : Int) := by rw [← hN119, ← hN121, ← hN122]; exact xor_w _ _
          obtain ⟨N124, hN124⟩ : ∃ z, ((rr R.e 25)).toNat = z := ⟨_, rfl⟩
          have q124 : ∀ w : World, Calls Tryd.prog 93 #[.int .u32 (Ne : Int), .int .u64 25] w fun e w' => e = .returned (.int .u32 (N124 : Int)) ∧ w = w' := fun w => by rw [← hNe, ← hN124]; exact refRotr_any _ 25 (by omega) (by omega) w
          have Q124 := Lib.hid q124
          clear q124
          obtain ⟨N125, hN125⟩ : ∃ z, ((((rr R.e 6) ^^^ (rr R.e 11)) ^^^ (rr R.e 25))).toNat = z := ⟨_, rfl⟩
          have f125 : bits BinOp.xor IntKind.u32 (N122 : Int) (N124 : Int) = (N125 : Int) := by rw [← hN122, ← hN124, ← hN125]; exact xor_w _ _
          obtain ⟨N126, hN126⟩ : ∃ z, ((R.h + (((rr R.e 6) ^^^ (rr R.e 11)) ^^^ (rr R.e 25)))).toNat = z := ⟨_, rfl⟩
          have f126 : IntKind.u32.wrap ((Nh : Int) + (N125 : Int)) = (N126 : Int) := by rw [← hNh, ← hN125, ← hN126]; rw [wrap_u32]; exact add_w _ _
          obtain ⟨N131, hN131⟩ : ∃ z, ((R.e &&& R.f)).toNat = z := ⟨_, rfl⟩
          have f131 : bits BinOp.and IntKind.u32 (Ne : Int) (Nf : Int) = (N131 : Int) := by rw [← hNe, ← hNf, ← hN131]; exact and_w _ _
          obtain ⟨N133, hN133⟩ : ∃ z, ((~~~R.e)).toNat = z := ⟨_, rfl⟩
          have f133 : IntKind.u32.wrap (4294967295 - (Ne : Int)) = (N133 : Int) := by rw [← hNe, ← hN133]; exact sub_not _
          obtain ⟨N137, hN137⟩ : ∃ z, (((~~~R.e) &&& R.g)).toNat = z := ⟨_, rfl⟩
          have f137 : bits BinOp.and IntKind.u32 (N133 : Int) (Ng : Int) = (N137 : Int) := by rw [← hN133, ← hNg, ← hN137]; exact and_w _ _
          obtain ⟨N138, hN138⟩ : ∃ z, (((R.e &&& R.f) ^^^ ((~~~R.e) &&& R.g))).toNat = z := ⟨_, rfl⟩
          have f138 : bits BinOp.xor IntKind.u32 (N131 : Int) (N137 : Int) = (N138 : Int) := by rw [← hN131, ← hN137, ← hN138]; exact xor_w _ _
          obtain ⟨N139, hN139⟩ : ∃ z, (((R.h + (((rr R.e 6) ^^^ (rr R.e 11)) ^^^ (rr R.e 25))) + ((R.e &&& R.f) ^^^ ((~~~R.e) &&& R.g)))).toNat = z := ⟨_, rfl⟩
          have f139 : IntKind.u32.wrap ((N126 : Int) + (N138 : Int)) = (N139 : Int) := by rw [← hN126, ← hN138, ← hN139]; rw [wrap_u32]; exact add_w _ _
          obtain ⟨N144, hN144⟩ : ∃ z, ((((R.h + (((rr R.e 6) ^^^ (rr R.e 11)) ^^^ (rr R.e 25))) + ((R.e &&& R.f) ^^^ ((~~~R.e) &&& R.g))) + K)).toNat = z := ⟨_, rfl⟩
          have f144 : IntKind.u32.wrap ((N139 : Int) + (NK : Int)) = (N144 : Int) := by rw [← hN139, ← hNK, ← hN144]; rw [wrap_u32]; exact add_w _ _
          obtain ⟨N149, hN149⟩ : ∃ z, (((((R.h + (((rr R.e 6) ^^^ (rr R.e 11)) ^^^ (rr R.e 25))) + ((R.e &&& R.f) ^^^ ((~~~R.e) &&& R.g))) + K) + X)).toNat = z := ⟨_, rfl⟩
          have f149 : IntKind.u32.wrap ((N144 : Int) + (NX : Int)) = (N149 : Int) := by rw [← hN144, ← hNX, ← hN149]; rw [wrap_u32]; exact add_w _ _
          have hS0 : Below wr.heap.size wr wx.drew := below_drew' HS7.out
          obtain ⟨wq, hwq⟩ : ∃ z, wx.drew = z := ⟨_, rfl⟩
          refine wp_region_held_drew (S := fun y => Below wr.heap.size wr y) (by kernel_rfl) hS0 (fun hHeld => ?_)
          rw [hwq] at hHeld hS0 hdq ⊢
          have HS := Lib.hid hS0
          have HO := Lib.hid hdq
          have HOq := HO
          clear hwq hS0 hdq
          have hbwr : bw < wr.heap.size := by have := hbv.size; omega
          refine wpAnyH_take (i := 0) (oi := { dst := some 115, op := Op.move (Operand.tmp 11), type := 97, pos := "ref.go:128", after := #[], guard := none }) (v := .slice (some ⟨gV, 0, none⟩) 8 dv) rfl (by kernel_rfl) (by kernel_rfl) (by kernel_rfl) (fun _ _ _ h => h) (Or.inl ⟨by rfl, ?hy55_0⟩) (by assumption) ?rest55_0
          case hy55_0 => (intro w hSw; (try dsimp only at hSw); go_simp; try with_reducible rfl)
          try simp only [Act.put, List.setIfInBounds_toArray, List.set_cons_zero, List.set_cons_succ]
          refine wpAnyH_take (i := 1) (oi := { dst := some 116, op := Op.indexAddr 97 (Operand.tmp 115) (Operand.const (Value.int IntKind.i64 7)), type := 0, pos := "ref.go:128", after := #[{ on := 0, ground := Ground.data }], guard := none }) (v := .pointer (some ⟨gV, 7, none⟩)) rfl (by kernel_rfl) (by kernel_rfl) (by kernel_rfl) (fun _ _ _ h => h) (Or.inl ⟨by rfl, ?hy55_1⟩) (by assumption) ?rest55_1
          case hy55_1 => (intro w hSw; (try dsimp only at hSw); go_simp; try with_reducible rfl)
          try simp only [Act.put, List.setIfInBounds_toArray, List.set_cons_zero, List.set_cons_succ]
          refine wpAnyH_take (i := 2) (oi := { dst := some 117, op := Op.load 96 (Operand.tmp 116), type := 96, pos := "ref.go:128", after := #[{ on := 1, ground := Ground.data }], guard := none }) (v := .int .u32 (Nh : Int)) rfl (by kernel_rfl) (by kernel_rfl) (by kernel_rfl) (fun _ _ _ h => h) (Or.inl ⟨by rfl, ?hy55_2⟩) (by assumption) ?rest55_2
          case hy55_2 => (intro w1 hSw; have hq := (Below.cell hSw (p := ⟨gV, 7, none⟩) hgV2).trans ch; go_simp; try with_reducible rfl)
          try simp only [Act.put, List.setIfInBounds_toArray, List.set_cons_zero, List.set_cons_succ]
          refine wpAnyH_take (i := 3) (oi := { dst := some 118, op := Op.move (Operand.tmp 14), type := 96, pos := "ref.go:128", after := #[], guard := none }) (v := .int .u32 (Ne : Int)) rfl (by kernel_rfl) (by kernel_rfl) (by kernel_rfl) (fun _ _ _ h => h) (Or.inl ⟨by rfl, ?hy55_3⟩) (by assumption) ?rest55_3
          case hy55_3 => (intro w hSw; (try dsimp only at hSw); go_simp; try with_reducible rfl)
          try simp only [Act.put, List.setIfInBounds_toArray, List.set_cons_zero, List.set_cons_succ]
          refine wpAnyH_take (i := 5) (oi := { dst := some 120, op := Op.move (Operand.tmp 14), type := 96, pos := "ref.go:128", after := #[], guard := none }) (v := .int .u32 (Ne : Int)) rfl (by kernel_rfl) (by kernel_rfl) (by kernel_rfl) (fun _ _ _ h => h) (Or.inl ⟨by rfl, ?hy55_5⟩) (by assumption) ?rest55_5
          case hy55_5 => (intro w hSw; (try dsimp only at hSw); go_simp; try with_reducible rfl)
          try simp only [Act.put, List.setIfInBounds_toArray, List.set_cons_zero, List.set_cons_succ]
          refine wpAnyH_take (i := 8) (oi := { dst := some 123, op := Op.move (Operand.tmp 14), type := 96, pos := "ref.go:128", after := #[], guard := none }) (v := .int .u32 (Ne : Int)) rfl (by kernel_rfl) (by kernel_rfl) (by kernel_rfl) (fun _ _ _ h => h) (Or.inl ⟨by rfl, ?hy55_8⟩) (by assumption) ?rest55_8
          case hy55_8 => (intro w hSw; (try dsimp only at hSw); go_simp; try with_reducible rfl)
          try simp only [Act.put, List.setIfInBounds_toArray, List.set_cons_zero, List.set_cons_succ]
          refine wpAnyH_take (i := 12) (oi := { dst := some 127, op := Op.move (Operand.tmp 14), type := 96, pos := "ref.go:128", after := #[], guard := none }) (v := .int .u32 (Ne : Int)) rfl (by kernel_rfl) (by kernel_rfl) (by kernel_rfl) (fun _ _ _ h => h) (Or.inl ⟨by rfl, ?hy55_12⟩) (by assumption) ?rest55_12
          case hy55_12 => (intro w hSw; (try dsimp only at hSw); go_simp; try with_reducible rfl)
          try simp only [Act.put, List.setIfInBounds_toArray, List.set_cons_zero, List.set_cons_succ]
          refine wpAnyH_take (i := 13) (oi := { dst := some 128, op := Op.move (Operand.tmp 11), type := 97, pos := "ref.go:128", after := #[], guard := none }) (v := .slice (some ⟨gV, 0, none⟩) 8 dv) rfl (by kernel_rfl) (by kernel_rfl) (by kernel_rfl) (fun _ _ _ h => h) (Or.inl ⟨by rfl, ?hy55_13⟩) (by assumption) ?rest55_13
          case hy55_13 => (intro w hSw; (try dsimp only at hSw); go_simp; try with_reducible rfl)
          try simp only [Act.put, List.setIfInBounds_toArray, List.set_cons_zero, List.set_cons_succ]
          refine wpAnyH_take (i := 14) (oi := { dst := some 129, op := Op.indexAddr 97 (Operand.tmp 128) (Operand.const (Value.int IntKind.i64 5)), type := 0, pos := "ref.go:128", after := #[{ on := 13, ground := Ground.data }], guard := none }) (v := .pointer (some ⟨gV, 5, none⟩)) rfl (by kernel_rfl) (by kernel_rfl) (by kernel_rfl) (fun _ _ _ h => h) (Or.inl ⟨by rfl, ?hy55_14⟩) (by assumption) ?rest55_14
          case hy55_14 => (intro w hSw; (try dsimp only at hSw); go_simp; try with_reducible rfl)
          try simp only [Act.put, List.setIfInBounds_toArray, List.set_cons_zero, List.set_cons_succ]
          refine wpAnyH_take (i := 15) (oi := { dst := some 130, op := Op.load 96 (Operand.tmp 129), type := 96, pos := "ref.go:128", after := #[{ on := 14, ground := Ground.data }], guard := none }) (v := .int .u32 (Nf : Int)) rfl (by kernel_rfl) (by kernel_rfl) (by kernel_rfl) (fun _ _ _ h => h) (Or.inl ⟨by rfl, ?hy55_15⟩) (by assumption) ?rest55_15
          case hy55_15 => (intro w1 hSw; have hq := (Below.cell hSw (p := ⟨gV, 5, none⟩) hgV2).trans cf; go_simp; try with_reducible rfl)
          try simp only [Act.put, List.setIfInBounds_toArray, List.set_cons_zero, List.set_cons_succ]
          refine wpAnyH_take (i := 16) (oi := { dst := some 131, op := Op.binOp BinOp.and 96 (Operand.tmp 127) (Operand.tmp 130) 96, type := 96, pos := "ref.go:128", after := #[{ on := 12, ground := Ground.data }, { on := 15, ground := Ground.data }], guard := none }) (v := .int .u32 (N131 : Int)) rfl (by kernel_rfl) (by kernel_rfl) (by kernel_rfl) (fun _ _ _ h => h) (Or.inl ⟨by rfl, ?hy55_16⟩) (by assumption) ?rest55_16
          case hy55_16 => (intro w hSw; (try dsimp only at hSw); go_simp; try with_reducible rfl)
          try simp only [Act.put, List.setIfInBounds_toArray, List.set_cons_zero, List.set_cons_succ]
          refine wpAnyH_take (i := 17) (oi := { dst := some 132, op := Op.move (Operand.tmp 14), type := 96, pos := "ref.go:128", after := #[], guard := none }) (v := .int .u32 (Ne : Int)) rfl (by kernel_rfl) (by kernel_rfl) (by kernel_rfl) (fun _ _ _ h => h) (Or.inl ⟨by rfl, ?hy55_17⟩) (by assumption) ?rest55_17
          case hy55_17 => (intro w hSw; (try dsimp only at hSw); go_simp; try with_reducible rfl)
          try simp only [Act.put, List.setIfInBounds_toArray, List.set_cons_zero, List.set_cons_succ]
          refine wpAnyH_take (i := 18) (oi := { dst := some 133, op := Op.binOp BinOp.sub 96 (Operand.const (Value.int IntKind.u32 4294967295)) (Operand.tmp 132) 96, type := 96, pos := "ref.go:128", after := #[{ on := 17, ground := Ground.data }], guard := none }) (v := .int .u32 (N133 : Int)) rfl (by kernel_rfl) (by kernel_rfl) (by kernel_rfl) (fun _ _ _ h => h) (Or.inl ⟨by rfl, ?hy55_18⟩) (by assumption) ?rest55_18
          case hy55_18 => (intro w hSw; (try dsimp only at hSw); go_simp; try with_reducible rfl)
          try simp only [Act.put, List.setIfInBounds_toArray, List.set_cons_zero, List.set_cons_succ]
          refine wpAnyH_take (i := 19) (oi := { dst := some 134, op := Op.move (Operand.tmp 11), type := 97, pos := "ref.go:128", after := #[], guard := none }) (v := .slice (some ⟨gV, 0, none⟩) 8 dv) rfl (by kernel_rfl) (by kernel_rfl) (by kernel_rfl) (fun _ _ _ h => h) (Or.inl ⟨by rfl, ?hy55_19⟩) (by assumption) ?rest55_19
          case hy55_19 => (intro w hSw; (try dsimp only at hSw); go_simp; try with_reducible rfl)
          try simp only [Act.put, List.setIfInBounds_toArray, List.set_cons_zero, List.set_cons_succ]
          refine wpAnyH_take (i := 20) (oi := { dst := some 135, op := Op.indexAddr 97 (Operand.tmp 134) (Operand.const (Value.int IntKind.i64 6)), type := 0, pos := "ref.go:128", after := #[{ on := 19, ground := Ground.data }], guard := none }) (v := .pointer (some ⟨gV, 6, none⟩)) rfl (by kernel_rfl) (by kernel_rfl) (by kernel_rfl) (fun _ _ _ h => h) (Or.inl ⟨by rfl, ?hy55_20⟩) (by assumption) ?rest55_20
          case hy55_20 => (intro w hSw; (try dsimp only at hSw); go_simp; try with_reducible rfl)
          try simp only [Act.put, List.setIfInBounds_toArray, List.set_cons_zero, List.set_cons_succ]
          refine wpAnyH_take (i := 21) (oi := { dst := some 136, op := Op.load 96 (Operand.tmp 135), type := 96, pos := "ref.go:128", after := #[{ on := 20, ground := Ground.data }], guard := none }) (v := .int .u32 (Ng : Int)) rfl (by kernel_rfl) (by kernel_rfl) (by kernel_rfl) (fun _ _ _ h => h) (Or.inl ⟨by rfl, ?hy55_21⟩) (by assumption) ?rest55_21
          case hy55_21 => (intro w1 hSw; have hq := (Below.cell hSw (p := ⟨gV, 6, none⟩) hgV2).trans cg; go_simp; try with_reducible rfl)
          try simp only [Act.put, List.setIfInBounds_toArray, List.set_cons_zero, List.set_cons_succ]
          refine wpAnyH_take (i := 22) (oi := { dst := some 137, op := Op.binOp BinOp.and 96 (Operand.tmp 133) (Operand.tmp 136) 96, type := 96, pos := "ref.go:128", after := #[{ on := 18, ground := Ground.data }, { on := 21, ground := Ground.data }], guard := none }) (v := .int .u32 (N137 : Int)) rfl (by kernel_rfl) (by kernel_rfl) (by kernel_rfl) (fun _ _ _ h => h) (Or.inl ⟨by rfl, ?hy55_22⟩) (by assumption) ?rest55_22
          case hy55_22 => (intro w hSw; (try dsimp only at hSw); go_simp; try with_reducible rfl)
          try simp only [Act.put, List.setIfInBounds_toArray, List.set_cons_zero, List.set_cons_succ]
          refine wpAnyH_take (i := 23) (oi := { dst := some 138, op := Op.binOp BinOp.xor 96 (Operand.tmp 131) (Operand.tmp 137) 96, type := 96, pos := "ref.go:128", after := #[{ on := 16, ground := Ground.data }, { on := 22, ground := Ground.data }], guard := none }) (v := .int .u32 (N138 : Int)) rfl (by kernel_rfl) (by kernel_rfl) (by kernel_rfl) (fun _ _ _ h => h) (Or.inl ⟨by rfl, ?hy55_23⟩) (by assumption) ?rest55_23
          case hy55_23 => (intro w hSw; (try dsimp only at hSw); go_simp; try with_reducible rfl)
          try simp only [Act.put, List.setIfInBounds_toArray, List.set_cons_zero, List.set_cons_succ]
          refine wpAnyH_take (i := 25) (oi := { dst := some 140, op := Op.move (Operand.tmp 1), type := 97, pos := "ref.go:128", after := #[], guard := none }) (v := .slice (some ⟨bk, ok, none⟩) 64 c1) rfl (by kernel_rfl) (by kernel_rfl) (by kernel_rfl) (fun _ _ _ h => h) (Or.inl ⟨by rfl, ?hy55_25⟩) (by assumption) ?rest55_25
          case hy55_25 => (intro w hSw; (try dsimp only at hSw); go_simp; try with_reducible rfl)
          try simp only [Act.put, List.setIfInBounds_toArray, List.set_cons_zero, List.set_cons_succ]
          refine wpAnyH_take (i := 26) (oi := { dst := some 141, op := Op.move (Operand.tmp 12), type := 3, pos := "ref.go:128", after := #[], guard := none }) (v := .int .i64 (t : Int)) rfl (by kernel_rfl) (by kernel_rfl) (by kernel_rfl) (fun _ _ _ h => h) (Or.inl ⟨by rfl, ?hy55_26⟩) (by assumption) ?rest55_26
          case hy55_26 => (intro w hSw; (try dsimp only at hSw); go_simp; try with_reducible rfl)
          try simp only [Act.put, List.setIfInBounds_toArray, List.set_cons_zero, List.set_cons_succ]
          refine wpAnyH_take (i := 27) (oi := { dst := some 142, op := Op.indexAddr 97 (Operand.tmp 140) (Operand.tmp 141), type := 0, pos := "ref.go:128", after := #[{ on := 25, ground := Ground.data }, { on := 26, ground := Ground.data }], guard := none }) (v := .pointer (some ⟨bk, ok + t, none⟩)) rfl (by kernel_rfl) (by kernel_rfl) (by kernel_rfl) (fun _ _ _ h => h) (Or.inl ⟨by rfl, ?hy55_27⟩) (by assumption) ?rest55_27
          case hy55_27 => (intro w hSw; (try dsimp only at hSw); go_simp; try with_reducible rfl)
          try simp only [Act.put, List.setIfInBounds_toArray, List.set_cons_zero, List.set_cons_succ]
          refine wpAnyH_take (i := 28) (oi := { dst := some 143, op := Op.load 96 (Operand.tmp 142), type := 96, pos := "ref.go:128", after := #[{ on := 27, ground := Ground.data }], guard := none }) (v := .int .u32 (NK : Int)) rfl (by kernel_rfl) (by kernel_rfl) (by kernel_rfl) (fun _ _ _ h => h) (Or.inl ⟨by rfl, ?hy55_28⟩) (by assumption) ?rest55_28
          case hy55_28 => (intro w1 hSw; have hq := (Below.cell hSw (p := ⟨bk, ok + t, none⟩) hbkr).trans hck; go_simp; try with_reducible rfl)
          try simp only [Act.put, List.setIfInBounds_toArray, List.set_cons_zero, List.set_cons_succ]
          refine wpAnyH_take (i := 30) (oi := { dst := some 145, op := Op.move (Operand.tmp 7), type := 97, pos := "ref.go:128", after := #[], guard := none }) (v := .slice (some ⟨bw, ow, none⟩) 64 d) rfl (by kernel_rfl) (by kernel_rfl) (by kernel_rfl) (fun _ _ _ h => h) (Or.inl ⟨by rfl, ?hy55_30⟩) (by assumption) ?rest55_30
          case hy55_30 => (intro w hSw; (try dsimp only at hSw); go_simp; try with_reducible rfl)
          try simp only [Act.put, List.setIfInBounds_toArray, List.set_cons_zero, List.set_cons_succ]
          refine wpAnyH_take (i := 31) (oi := { dst := some 146, op := Op.move (Operand.tmp 12), type := 3, pos := "ref.go:128", after := #[], guard := none }) (v := .int .i64 (t : Int)) rfl (by kernel_rfl) (by kernel_rfl) (by kernel_rfl) (fun _ _ _ h => h) (Or.inl ⟨by rfl, ?hy55_31⟩) (by assumption) ?rest55_31
          case hy55_31 => (intro w hSw; (try dsimp only at hSw); go_simp; try with_reducible rfl)
          try simp only [Act.put, List.setIfInBounds_toArray, List.set_cons_zero, List.set_cons_succ]
          refine wpAnyH_take (i := 32) (oi := { dst := some 147, op := Op.indexAddr 97 (Operand.tmp 145) (Operand.tmp 146), type := 0, pos := "ref.go:128", after := #[{ on := 30, ground := Ground.data }, { on := 31, ground := Ground.data }], guard := none }) (v := .pointer (some ⟨bw, ow + t, none⟩)) rfl (by kernel_rfl) (by kernel_rfl) (by kernel_rfl) (fun _ _ _ h => h) (Or.inl ⟨by rfl, ?hy55_32⟩) (by assumption) ?rest55_32
          case hy55_32 => (intro w hSw; (try dsimp only at hSw); go_simp; try with_reducible rfl)
          try simp only [Act.put, List.setIfInBounds_toArray, List.set_cons_zero, List.set_cons_succ]
          refine wpAnyH_take (i := 33) (oi := { dst := some 148, op := Op.load 96 (Operand.tmp 147), type := 96, pos := "ref.go:128", after := #[{ on := 32, ground := Ground.data }], guard := none }) (v := .int .u32 (NX : Int)) rfl (by kernel_rfl) (by kernel_rfl) (by kernel_rfl) (fun _ _ _ h => h) (Or.inl ⟨by rfl, ?hy55_33⟩) (by assumption) ?rest55_33
          case hy55_33 => (intro w1 hSw; have hq := (Below.cell hSw (p := ⟨bw, ow + t, none⟩) hbwr).trans hcw; go_simp; try with_reducible rfl)
          try simp only [Act.put, List.setIfInBounds_toArray, List.set_cons_zero, List.set_cons_succ]
          refine wpAnyH_ready (rs := [4]) (by kernel_rfl) (by simp) ?_
          refine AllReadyH.cons (o := { dst := some 119, op := Op.call { callee := Callee.value (Operand.func 93), args := #[Operand.tmp 118, Operand.const (Value.int IntKind.u64 6)], argTypes := #[96, 51] }, type := 96, pos := "ref.go:128", after := #[{ on := 3, ground := Ground.data }], guard := none }) rfl (fun K hK => ?_) AllReadyH.nil
          go_simp
          refine (Q119.out _).mono ?_
          rintro e w' ⟨rfl, rfl⟩
          refine hK.out _ _ (by assumption) (fun _ => ?_)
          clear hK K
          try simp only [Act.put, List.setIfInBounds_toArray, List.set_cons_zero, List.set_cons_succ]
          refine wpAnyH_ready (rs := [6]) (by kernel_rfl) (by simp) ?_
          refine AllReadyH.cons (o := { dst := some 121, op := Op.call { callee := Callee.value (Operand.func 93), args := #[Operand.tmp 120, Operand.const (Value.int IntKind.u64 11)], argTypes := #[96, 51] }, type := 96, pos := "ref.go:128", after := #[{ on := 5, ground := Ground.data }, { on := 4, ground := Ground.chain }], guard := none }) rfl (fun K hK => ?_) AllReadyH.nil
          go_simp
          refine (Q121.out _).mono ?_
          rintro e w' ⟨rfl, rfl⟩
          refine hK.out _ _ (by assumption) (fun _ => ?_)
          clear hK K
          try simp only [Act.put, List.setIfInBounds_toArray, List.set_cons_zero, List.set_cons_succ]
          refine wpAnyH_take (i := 7) (oi := { dst := some 122, op := Op.binOp BinOp.xor 96 (Operand.tmp 119) (Operand.tmp 121) 96, type := 96, pos := "ref.go:128", after := #[{ on := 4, ground := Ground.data }, { on := 6, ground := Ground.data }], guard := none }) (v := .int .u32 (N122 : Int)) rfl (by kernel_rfl) (by kernel_rfl) (by kernel_rfl) (fun _ _ _ h => h) (Or.inl ⟨by rfl, ?hy55_7⟩) (by assumption) ?rest55_7
          case hy55_7 => (intro w hSw; (try dsimp only at hSw); go_simp; try with_reducible rfl)
          try simp only [Act.put, List.setIfInBounds_toArray, List.set_cons_zero, List.set_cons_succ]
          refine wpAnyH_ready (rs := [9]) (by kernel_rfl) (by simp) ?_
          refine AllReadyH.cons (o := { dst := some 124, op := Op.call { callee := Callee.value (Operand.func 93), args := #[Operand.tmp 123, Operand.const (Value.int IntKind.u64 25)], argTypes := #[96, 51] }, type := 96, pos := "ref.go:128", after := #[{ on := 8, ground := Ground.data }, { on := 6, ground := Ground.chain }], guard := none }) rfl (fun K hK => ?_) AllReadyH.nil
          go_simp
          refine (Q124.out _).mono ?_
          rintro e w' ⟨rfl, rfl⟩
          refine hK.out _ _ (by assumption) (fun _ => ?_)
          clear hK K
          try simp only [Act.put, List.setIfInBounds_toArray, List.set_cons_zero, List.set_cons_succ]
          refine wpAnyH_take (i := 10) (oi := { dst := some 125, op := Op.binOp BinOp.xor 96 (Operand.tmp 122) (Operand.tmp 124) 96, type := 96, pos := "ref.go:128", after := #[{ on := 7, ground := Ground.data }, { on := 9, ground := Ground.data }], guard := none }) (v := .int .u32 (N125 : Int)) rfl (by kernel_rfl) (by kernel_rfl) (by kernel_rfl) (fun _ _ _ h => h) (Or.inl ⟨by rfl, ?hy55_10⟩) (by assumption) ?rest55_10
          case hy55_10 => (intro w hSw; (try dsimp only at hSw); go_simp; try with_reducible rfl)
          try simp only [Act.put, List.setIfInBounds_toArray, List.set_cons_zero, List.set_cons_succ]
          refine wpAnyH_take (i := 11) (oi := { dst := some 126, op := Op.binOp BinOp.add 96 (Operand.tmp 117) (Operand.tmp 125) 96, type := 96, pos := "ref.go:128", after := #[{ on := 2, ground := Ground.data }, { on := 10, ground := Ground.data }], guard := none }) (v := .int .u32 (N126 : Int)) rfl (by kernel_rfl) (by kernel_rfl) (by kernel_rfl) (fun _ _ _ h => h) (Or.inl ⟨by rfl, ?hy55_11⟩) (by assumption) ?rest55_11
          case hy55_11 => (intro w hSw; (try dsimp only at hSw); go_simp; try with_reducible rfl)
          try simp only [Act.put, List.setIfInBounds_toArray, List.set_cons_zero, List.set_cons_succ]
          refine wpAnyH_take (i := 24) (oi := { dst := some 139, op := Op.binOp BinOp.add 96 (Operand.tmp 126) (Operand.tmp 138) 96, type := 96, pos := "ref.go:128", after := #[{ on := 11, ground := Ground.data }, { on := 23, ground := Ground.data }], guard := none }) (v := .int .u32 (N139 : Int)) rfl (by kernel_rfl) (by kernel_rfl) (by kernel_rfl) (fun _ _ _ h => h) (Or.inl ⟨by rfl, ?hy55_24⟩) (by assumption) ?rest55_24
          case hy55_24 => (intro w hSw; (try dsimp only at hSw); go_simp; try with_reducible rfl)
          try simp only [Act.put, List.setIfInBounds_toArray, List.set_cons_zero, List.set_cons_succ]
          refine wpAnyH_take (i := 29) (oi := { dst := some 144, op := Op.binOp BinOp.add 96 (Operand.tmp 139) (Operand.tmp 143) 96, type := 96, pos := "ref.go:128", after := #[{ on := 24, ground := Ground.data }, { on := 28, ground := Ground.data }], guard := none }) (v := .int .u32 (N144 : Int)) rfl (by kernel_rfl) (by kernel_rfl) (by kernel_rfl) (fun _ _ _ h => h) (Or.inl ⟨by rfl, ?hy55_29⟩) (by assumption) ?rest55_29
          case hy55_29 => (intro w hSw; (try dsimp only at hSw); go_simp; try with_reducible rfl)
          try simp only [Act.put, List.setIfInBounds_toArray, List.set_cons_zero, List.set_cons_succ]
          refine wpAnyH_take (i := 34) (oi := { dst := some 149, op := Op.binOp BinOp.add 96 (Operand.tmp 144) (Operand.tmp 148) 96, type := 96, pos := "ref.go:128", after := #[{ on := 29, ground := Ground.data }, { on := 33, ground := Ground.data }], guard := none }) (v := .int .u32 (N149 : Int)) rfl (by kernel_rfl) (by kernel_rfl) (by kernel_rfl) (fun _ _ _ h => h) (Or.inl ⟨by rfl, ?hy55_34⟩) (by assumption) ?rest55_34
          case hy55_34 => (intro w hSw; (try dsimp only at hSw); go_simp; try with_reducible rfl)
          try simp only [Act.put, List.setIfInBounds_toArray, List.set_cons_zero, List.set_cons_succ]
          refine wpAnyH_take (i := 35) (oi := { dst := some 15, op := Op.assign (Operand.tmp 149), type := 96, pos := "ref.go:128", after := #[{ on := 34, ground := Ground.data }, { on := 9, ground := Ground.chain }, { on := 0, ground := Ground.phase }, { on := 1, ground := Ground.phase }, { on := 2, ground := Ground.phase }, { on := 3, ground := Ground.phase }, { on := 4, ground := Ground.phase }, { on := 5, ground := Ground.phase }, { on := 6, ground := Ground.phase }, { on := 7, ground := Ground.phase }, { on := 8, ground := Ground.phase }, { on := 9, ground := Ground.phase }, { on := 10, ground := Ground.phase }, { on := 11, ground := Ground.phase }, { on := 12, ground := Ground.phase }, { on := 13, ground := Ground.phase }, { on := 14, ground := Ground.phase }, { on := 15, ground := Ground.phase }, { on := 16, ground := Ground.phase }, { on := 17, ground := Ground.phase }, { on := 18, ground := Ground.phase }, { on := 19, ground := Ground.phase }, { on := 20, ground := Ground.phase }, { on := 21, ground := Ground.phase }, { on := 22, ground := Ground.phase }, { on := 23, ground := Ground.phase }, { on := 24, ground := Ground.phase }, { on := 25, ground := Ground.phase }, { on := 26, ground := Ground.phase }, { on := 27, ground := Ground.phase }, { on := 28, ground := Ground.phase }, { on := 29, ground := Ground.phase }, { on := 30, ground := Ground.phase }, { on := 31, ground := Ground.phase }, { on := 32, ground := Ground.phase }, { on := 33, ground := Ground.phase }, { on := 34, ground := Ground.phase }], guard := none }) (v := .int .u32 (N149 : Int)) rfl (by kernel_rfl) (by kernel_rfl) (by kernel_rfl) (fun _ _ _ h => h) (Or.inl ⟨by rfl, ?hy55_35⟩) (by assumption) ?rest55_35
          case hy55_35 => (intro w hSw; (try dsimp only at hSw); go_simp; try with_reducible rfl)
          try simp only [Act.put, List.setIfInBounds_toArray, List.set_cons_zero, List.set_cons_succ]
          refine wpAnyH_done (by kernel_rfl) ?_ _
          clear f122 f125 f126 f131 f133 f137 f138 f139 f144 f149
          go_upto_region 16 with fail
          obtain ⟨wx, hwx⟩ : ∃ z, z = wq := ⟨_, rfl⟩
          subst hwx
          have HS7 := HS
          have hdq := HO.out.drew
          clear hHeld HS HO HOq
          obtain ⟨N151, hN151⟩ : ∃ z, ((rr R.a 2)).toNat = z := ⟨_, rfl⟩
          have q151 : ∀ w : World, Calls Tryd.prog 93 #[.int .u32 (Na : Int), .int .u64 2] w fun e w' => e = .returned (.int .u32 (N151 : Int)) ∧ w = w' := fun w => by rw [← hNa, ← hN151]; exact refRotr_any _ 2 (by omega) (by omega) w
          have Q151 := Lib.hid q151
          clear q151
          obtain ⟨N153, hN153⟩ : ∃ z, ((rr R.a 13)).toNat = z := ⟨_, rfl⟩
          have q153 : ∀ w : World, Calls Tryd.prog 93 #[.int .u32 (Na : Int), .int .u64 13] w fun e w' => e = .returned (.int .u32 (N153 : Int)) ∧ w = w' := fun w => by rw [← hNa, ← hN153]; exact refRotr_any _ 13 (by omega) (by omega) w
          have Q153 := Lib.hid q153
          clear q153
          obtain ⟨N154, hN154⟩ : ∃ z, (((rr R.a 2) ^^^ (rr R.a 13))).toNat = z := ⟨_, rfl⟩
          have f154 : bits BinOp.xor IntKind.u32 (N151 : Int) (N153 : Int) = (N154 : Int) := by rw [← hN151, ← hN153, ← hN154]; exact xor_w _ _
          obtain ⟨N156, hN156⟩ : ∃ z, ((rr R.a 22)).toNat = z := ⟨_, rfl⟩
          have q156 : ∀ w : World, Calls Tryd.prog 93 #[.int .u32 (Na : Int), .int .u64 22] w fun e w' => e = .returned (.int .u32 (N156 : Int)) ∧ w = w' := fun w => by rw [← hNa, ← hN156]; exact refRotr_any _ 22 (by omega) (by omega) w
          have Q156 := Lib.hid q156
          clear q156
          obtain ⟨N157, hN157⟩ : ∃ z, ((((rr R.a 2) ^^^ (rr R.a 13)) ^^^ (rr R.a 22))).toNat = z := ⟨_, rfl⟩
          have f157 : bits BinOp.xor IntKind.u32 (N154 : Int) (N156 : Int) = (N157 : Int) := by rw [← hN154, ← hN156, ← hN157]; exact xor_w _ _
          obtain ⟨N162, hN162⟩ : ∃ z, ((R.a &&& R.b)).toNat = z := ⟨_, rfl⟩
          have f162 : bits BinOp.and IntKind.u32 (Na : Int) (Nb : Int) = (N162 : Int) := by rw [← hNa, ← hNb, ← hN162]; exact and_w _ _
          obtain ⟨N167, hN167⟩ : ∃ z, ((R.a &&& R.c)).toNat = z := ⟨_, rfl⟩
          have f167 : bits BinOp.and IntKind.u32 (Na : Int) (Nc : Int) = (N167 : Int) := by rw [← hNa, ← hNc, ← hN167]; exact and_w _ _
          obtain ⟨N168, hN168⟩ : ∃ z, (((R.a &&& R.b) ^^^ (R.a &&& R.c))).toNat = z := ⟨_, rfl⟩
          have f168 : bits BinOp.xor IntKind.u32 (N162 : Int) (N167 : Int) = (N168 : Int) := by rw [← hN162, ← hN167, ← hN168]; exact xor_w _ _
          obtain ⟨N175, hN175⟩ : ∃ z, ((R.b &&& R.c)).toNat = z := ⟨_, rfl⟩
          have f175 : bits BinOp.and IntKind.u32 (Nb : Int) (Nc : Int) = (N175 : Int) := by rw [← hNb, ← hNc, ← hN175]; exact and_w _ _
          obtain ⟨N176, hN176⟩ : ∃ z, ((((R.a &&& R.b) ^^^ (R.a &&& R.c)) ^^^ (R.b &&& R.c))).toNat = z := ⟨_, rfl⟩
          have f176 : bits BinOp.xor IntKind.u32 (N168 : Int) (N175 : Int) = (N176 : Int) := by rw [← hN168, ← hN175, ← hN176]; exact xor_w _ _
          obtain ⟨N177, hN177⟩ : ∃ z, (((((rr R.a 2) ^^^ (rr R.a 13)) ^^^ (rr R.a 22)) + (((R.a &&& R.b) ^^^ (R.a &&& R.c)) ^^^ (R.b &&& R.c)))).toNat = z := ⟨_, rfl⟩
          have f177 : IntKind.u32.wrap ((N157 : Int) + (N176 : Int)) = (N177 : Int) := by rw [← hN157, ← hN176, ← hN177]; rw [wrap_u32]; exact add_w _ _
          have hS0 : Below wr.heap.size wr wx.drew := below_drew' HS7.out
          obtain ⟨wq, hwq⟩ : ∃ z, wx.drew = z := ⟨_, rfl⟩
          refine wp_region_held_drew (S := fun y => Below wr.heap.size wr y) (by kernel_rfl) hS0 (fun hHeld => ?_)
          rw [hwq] at hHeld hS0 hdq ⊢
          have HS := Lib.hid hS0
          have HO := Lib.hid hdq
          have HOq := HO
          clear hwq hS0 hdq
          refine wpAnyH_take (i := 0) (oi := { dst := some 150, op := Op.move (Operand.tmp 13), type := 96, pos := "ref.go:129", after := #[], guard := none }) (v := .int .u32 (Na : Int)) rfl (by kernel_rfl) (by kernel_rfl) (by kernel_rfl) (fun _ _ _ h => h) (Or.inl ⟨by rfl, ?hy66_0⟩) (by assumption) ?rest66_0
          case hy66_0 => (intro w hSw; (try dsimp only at hSw); go_simp; try with_reducible rfl)
          try simp only [Act.put, List.setIfInBounds_toArray, List.set_cons_zero, List.set_cons_succ]
          refine wpAnyH_take (i := 2) (oi := { dst := some 152, op := Op.move (Operand.tmp 13), type := 96, pos := "ref.go:129", after := #[], guard := none }) (v := .int .u32 (Na : Int)) rfl (by kernel_rfl) (by kernel_rfl) (by kernel_rfl) (fun _ _ _ h => h) (Or.inl ⟨by rfl, ?hy66_2⟩) (by assumption) ?rest66_2
          case hy66_2 => (intro w hSw; (try dsimp only at hSw); go_simp; try with_reducible rfl)
          try simp only [Act.put, List.setIfInBounds_toArray, List.set_cons_zero, List.set_cons_succ]
          refine wpAnyH_take (i := 5) (oi := { dst := some 155, op := Op.move (Operand.tmp 13), type := 96, pos := "ref.go:129", after := #[], guard := none }) (v := .int .u32 (Na : Int)) rfl (by kernel_rfl) (by kernel_rfl) (by kernel_rfl) (fun _ _ _ h => h) (Or.inl ⟨by rfl, ?hy66_5⟩) (by assumption) ?rest66_5
          case hy66_5 => (intro w hSw; (try dsimp only at hSw); go_simp; try with_reducible rfl)
          try simp only [Act.put, List.setIfInBounds_toArray, List.set_cons_zero, List.set_cons_succ]
          refine wpAnyH_take (i := 8) (oi := { dst := some 158, op := Op.move (Operand.tmp 13), type := 96, pos := "ref.go:129", after := #[], guard := none }) (v := .int .u32 (Na : Int)) rfl (by kernel_rfl) (by kernel_rfl) (by kernel_rfl) (fun _ _ _ h => h) (Or.inl ⟨by rfl, ?hy66_8⟩) (by assumption) ?rest66_8
          case hy66_8 => (intro w hSw; (try dsimp only at hSw); go_simp; try with_reducible rfl)
          try simp only [Act.put, List.setIfInBounds_toArray, List.set_cons_zero, List.set_cons_succ]
          refine wpAnyH_take (i := 9) (oi := { dst := some 159, op := Op.move (Operand.tmp 11), type := 97, pos := "ref.go:129", after := #[], guard := none }) (v := .slice (some ⟨gV, 0, none⟩) 8 dv) rfl (by kernel_rfl) (by kernel_rfl) (by kernel_rfl) (fun _ _ _ h => h) (Or.inl ⟨by rfl, ?hy66_9⟩) (by assumption) ?rest66_9
          case hy66_9 => (intro w hSw; (try dsimp only at hSw); go_simp; try with_reducible rfl)
          try simp only [Act.put, List.setIfInBounds_toArray, List.set_cons_zero, List.set_cons_succ]
          refine wpAnyH_take (i := 10) (oi := { dst := some 160, op := Op.indexAddr 97 (Operand.tmp 159) (Operand.const (Value.int IntKind.i64 1)), type := 0, pos := "ref.go:129", after := #[{ on := 9, ground := Ground.data }], guard := none }) (v := .pointer (some ⟨gV, 1, none⟩)) rfl (by kernel_rfl) (by kernel_rfl) (by kernel_rfl) (fun _ _ _ h => h) (Or.inl ⟨by rfl, ?hy66_10⟩) (by assumption) ?rest66_10
          case hy66_10 => (intro w hSw; (try dsimp only at hSw); go_simp; try with_reducible rfl)
          try simp only [Act.put, List.setIfInBounds_toArray, List.set_cons_zero, List.set_cons_succ]
          refine wpAnyH_take (i := 11) (oi := { dst := some 161, op := Op.load 96 (Operand.tmp 160), type := 96, pos := "ref.go:129", after := #[{ on := 10, ground := Ground.data }], guard := none }) (v := .int .u32 (Nb : Int)) rfl (by kernel_rfl) (by kernel_rfl) (by kernel_rfl) (fun _ _ _ h => h) (Or.inl ⟨by rfl, ?hy66_11⟩) (by assumption) ?rest66_11
          case hy66_11 => (intro w1 hSw; have hq := (Below.cell hSw (p := ⟨gV, 1, none⟩) hgV2).trans cb; go_simp; try with_reducible rfl)
          try simp only [Act.put, List.setIfInBounds_toArray, List.set_cons_zero, List.set_cons_succ]
          refine wpAnyH_take (i := 12) (oi := { dst := some 162, op := Op.binOp BinOp.and 96 (Operand.tmp 158) (Operand.tmp 161) 96, type := 96, pos := "ref.go:129", after := #[{ on := 8, ground := Ground.data }, { on := 11, ground := Ground.data }], guard := none }) (v := .int .u32 (N162 : Int)) rfl (by kernel_rfl) (by kernel_rfl) (by kernel_rfl) (fun _ _ _ h => h) (Or.inl ⟨by rfl, ?hy66_12⟩) (by assumption) ?rest66_12
          case hy66_12 => (intro w hSw; (try dsimp only at hSw); go_simp; try with_reducible rfl)
          try simp only [Act.put, List.setIfInBounds_toArray, List.set_cons_zero, List.set_cons_succ]
          refine wpAnyH_take (i := 13) (oi := { dst := some 163, op := Op.move (Operand.tmp 13), type := 96, pos := "ref.go:129", after := #[], guard := none }) (v := .int .u32 (Na : Int)) rfl (by kernel_rfl) (by kernel_rfl) (by kernel_rfl) (fun _ _ _ h => h) (Or.inl ⟨by rfl, ?hy66_13⟩) (by assumption) ?rest66_13
          case hy66_13 => (intro w hSw; (try dsimp only at hSw); go_simp; try with_reducible rfl)
          try simp only [Act.put, List.setIfInBounds_toArray, List.set_cons_zero, List.set_cons_succ]
          refine wpAnyH_take (i := 14) (oi := { dst := some 164, op := Op.move (Operand.tmp 11), type := 97, pos := "ref.go:129", after := #[], guard := none }) (v := .slice (some ⟨gV, 0, none⟩) 8 dv) rfl (by kernel_rfl) (by kernel_rfl) (by kernel_rfl) (fun _ _ _ h => h) (Or.inl ⟨by rfl, ?hy66_14⟩) (by assumption) ?rest66_14
          case hy66_14 => (intro w hSw; (try dsimp only at hSw); go_simp; try with_reducible rfl)
          try simp only [Act.put, List.setIfInBounds_toArray, List.set_cons_zero, List.set_cons_succ]
          refine wpAnyH_take (i := 15) (oi := { dst := some 165, op := Op.indexAddr 97 (Operand.tmp 164) (Operand.const (Value.int IntKind.i64 2)), type := 0, pos := "ref.go:129", after := #[{ on := 14, ground := Ground.data }], guard := none }) (v := .pointer (some ⟨gV, 2, none⟩)) rfl (by kernel_rfl) (by kernel_rfl) (by kernel_rfl) (fun _ _ _ h => h) (Or.inl ⟨by rfl, ?hy66_15⟩) (by assumption) ?rest66_15
          case hy66_15 => (intro w hSw; (try dsimp only at hSw); go_simp; try with_reducible rfl)
          try simp only [Act.put, List.setIfInBounds_toArray, List.set_cons_zero, List.set_cons_succ]
          refine wpAnyH_take (i := 16) (oi := { dst := some 166, op := Op.load 96 (Operand.tmp 165), type := 96, pos := "ref.go:129", after := #[{ on := 15, ground := Ground.data }], guard := none }) (v := .int .u32 (Nc : Int)) rfl (by kernel_rfl) (by kernel_rfl) (by kernel_rfl) (fun _ _ _ h => h) (Or.inl ⟨by rfl, ?hy66_16⟩) (by assumption) ?rest66_16
          case hy66_16 => (intro w1 hSw; have hq := (Below.cell hSw (p := ⟨gV, 2, none⟩) hgV2).trans cc; go_simp; try with_reducible rfl)
          try simp only [Act.put, List.setIfInBounds_toArray, List.set_cons_zero, List.set_cons_succ]
          refine wpAnyH_take (i := 17) (oi := { dst := some 167, op := Op.binOp BinOp.and 96 (Operand.tmp 163) (Operand.tmp 166) 96, type := 96, pos := "ref.go:129", after := #[{ on := 13, ground := Ground.data }, { on := 16, ground := Ground.data }], guard := none }) (v := .int .u32 (N167 : Int)) rfl (by kernel_rfl) (by kernel_rfl) (by kernel_rfl) (fun _ _ _ h => h) (Or.inl ⟨by rfl, ?hy66_17⟩) (by assumption) ?rest66_17
          case hy66_17 => (intro w hSw; (try dsimp only at hSw); go_simp; try with_reducible rfl)
          try simp only [Act.put, List.setIfInBounds_toArray, List.set_cons_zero, List.set_cons_succ]
          refine wpAnyH_take (i := 18) (oi := { dst := some 168, op := Op.binOp BinOp.xor 96 (Operand.tmp 162) (Operand.tmp 167) 96, type := 96, pos := "ref.go:129", after := #[{ on := 12, ground := Ground.data }, { on := 17, ground := Ground.data }], guard := none }) (v := .int .u32 (N168 : Int)) rfl (by kernel_rfl) (by kernel_rfl) (by kernel_rfl) (fun _ _ _ h => h) (Or.inl ⟨by rfl, ?hy66_18⟩) (by assumption) ?rest66_18
          case hy66_18 => (intro w hSw; (try dsimp only at hSw); go_simp; try with_reducible rfl)
          try simp only [Act.put, List.setIfInBounds_toArray, List.set_cons_zero, List.set_cons_succ]
          refine wpAnyH_take (i := 19) (oi := { dst := some 169, op := Op.move (Operand.tmp 11), type := 97, pos := "ref.go:129", after := #[], guard := none }) (v := .slice (some ⟨gV, 0, none⟩) 8 dv) rfl (by kernel_rfl) (by kernel_rfl) (by kernel_rfl) (fun _ _ _ h => h) (Or.inl ⟨by rfl, ?hy66_19⟩) (by assumption) ?rest66_19
          case hy66_19 => (intro w hSw; (try dsimp only at hSw); go_simp; try with_reducible rfl)
          try simp only [Act.put, List.setIfInBounds_toArray, List.set_cons_zero, List.set_cons_succ]
          refine wpAnyH_take (i := 20) (oi := { dst := some 170, op := Op.indexAddr 97 (Operand.tmp 169) (Operand.const (Value.int IntKind.i64 1)), type := 0, pos := "ref.go:129", after := #[{ on := 19, ground := Ground.data }], guard := none }) (v := .pointer (some ⟨gV, 1, none⟩)) rfl (by kernel_rfl) (by kernel_rfl) (by kernel_rfl) (fun _ _ _ h => h) (Or.inl ⟨by rfl, ?hy66_20⟩) (by assumption) ?rest66_20
          case hy66_20 => (intro w hSw; (try dsimp only at hSw); go_simp; try with_reducible rfl)
          try simp only [Act.put, List.setIfInBounds_toArray, List.set_cons_zero, List.set_cons_succ]
          refine wpAnyH_take (i := 21) (oi := { dst := some 171, op := Op.load 96 (Operand.tmp 170), type := 96, pos := "ref.go:129", after := #[{ on := 20, ground := Ground.data }], guard := none }) (v := .int .u32 (Nb : Int)) rfl (by kernel_rfl) (by kernel_rfl) (by kernel_rfl) (fun _ _ _ h => h) (Or.inl ⟨by rfl, ?hy66_21⟩) (by assumption) ?rest66_21
          case hy66_21 => (intro w1 hSw; have hq := (Below.cell hSw (p := ⟨gV, 1, none⟩) hgV2).trans cb; go_simp; try with_reducible rfl)
          try simp only [Act.put, List.setIfInBounds_toArray, List.set_cons_zero, List.set_cons_succ]
          refine wpAnyH_take (i := 22) (oi := { dst := some 172, op := Op.move (Operand.tmp 11), type := 97, pos := "ref.go:129", after := #[], guard := none }) (v := .slice (some ⟨gV, 0, none⟩) 8 dv) rfl (by kernel_rfl) (by kernel_rfl) (by kernel_rfl) (fun _ _ _ h => h) (Or.inl ⟨by rfl, ?hy66_22⟩) (by assumption) ?rest66_22
          case hy66_22 => (intro w hSw; (try dsimp only at hSw); go_simp; try with_reducible rfl)
          try simp only [Act.put, List.setIfInBounds_toArray, List.set_cons_zero, List.set_cons_succ]
          refine wpAnyH_take (i := 23) (oi := { dst := some 173, op := Op.indexAddr 97 (Operand.tmp 172) (Operand.const (Value.int IntKind.i64 2)), type := 0, pos := "ref.go:129", after := #[{ on := 22, ground := Ground.data }], guard := none }) (v := .pointer (some ⟨gV, 2, none⟩)) rfl (by kernel_rfl) (by kernel_rfl) (by kernel_rfl) (fun _ _ _ h => h) (Or.inl ⟨by rfl, ?hy66_23⟩) (by assumption) ?rest66_23
          case hy66_23 => (intro w hSw; (try dsimp only at hSw); go_simp; try with_reducible rfl)
          try simp only [Act.put, List.setIfInBounds_toArray, List.set_cons_zero, List.set_cons_succ]
          refine wpAnyH_take (i := 24) (oi := { dst := some 174, op := Op.load 96 (Operand.tmp 173), type := 96, pos := "ref.go:129", after := #[{ on := 23, ground := Ground.data }], guard := none }) (v := .int .u32 (Nc : Int)) rfl (by kernel_rfl) (by kernel_rfl) (by kernel_rfl) (fun _ _ _ h => h) (Or.inl ⟨by rfl, ?hy66_24⟩) (by assumption) ?rest66_24
          case hy66_24 => (intro w1 hSw; have hq := (Below.cell hSw (p := ⟨gV, 2, none⟩) hgV2).trans cc; go_simp; try with_reducible rfl)
          try simp only [Act.put, List.setIfInBounds_toArray, List.set_cons_zero, List.set_cons_succ]
          refine wpAnyH_take (i := 25) (oi := { dst := some 175, op := Op.binOp BinOp.and 96 (Operand.tmp 171) (Operand.tmp 174) 96, type := 96, pos := "ref.go:129", after := #[{ on := 21, ground := Ground.data }, { on := 24, ground := Ground.data }], guard := none }) (v := .int .u32 (N175 : Int)) rfl (by kernel_rfl) (by kernel_rfl) (by kernel_rfl) (fun _ _ _ h => h) (Or.inl ⟨by rfl, ?hy66_25⟩) (by assumption) ?rest66_25
          case hy66_25 => (intro w hSw; (try dsimp only at hSw); go_simp; try with_reducible rfl)
          try simp only [Act.put, List.setIfInBounds_toArray, List.set_cons_zero, List.set_cons_succ]
          refine wpAnyH_take (i := 26) (oi := { dst := some 176, op := Op.binOp BinOp.xor 96 (Operand.tmp 168) (Operand.tmp 175) 96, type := 96, pos := "ref.go:129", after := #[{ on := 18, ground := Ground.data }, { on := 25, ground := Ground.data }], guard := none }) (v := .int .u32 (N176 : Int)) rfl (by kernel_rfl) (by kernel_rfl) (by kernel_rfl) (fun _ _ _ h => h) (Or.inl ⟨by rfl, ?hy66_26⟩) (by assumption) ?rest66_26
          case hy66_26 => (intro w hSw; (try dsimp only at hSw); go_simp; try with_reducible rfl)
          try simp only [Act.put, List.setIfInBounds_toArray, List.set_cons_zero, List.set_cons_succ]
          refine wpAnyH_ready (rs := [1]) (by kernel_rfl) (by simp) ?_
          refine AllReadyH.cons (o := { dst := some 151, op := Op.call { callee := Callee.value (Operand.func 93), args := #[Operand.tmp 150, Operand.const (Value.int IntKind.u64 2)], argTypes := #[96, 51] }, type := 96, pos := "ref.go:129", after := #[{ on := 0, ground := Ground.data }], guard := none }) rfl (fun K hK => ?_) AllReadyH.nil
          go_simp
          refine (Q151.out _).mono ?_
          rintro e w' ⟨rfl, rfl⟩
          refine hK.out _ _ (by assumption) (fun _ => ?_)
          clear hK K
          try simp only [Act.put, List.setIfInBounds_toArray, List.set_cons_zero, List.set_cons_succ]
          refine wpAnyH_ready (rs := [3]) (by kernel_rfl) (by simp) ?_
          refine AllReadyH.cons (o := { dst := some 153, op := Op.call { callee := Callee.value (Operand.func 93), args := #[Operand.tmp 152, Operand.const (Value.int IntKind.u64 13)], argTypes := #[96, 51] }, type := 96, pos := "ref.go:129", after := #[{ on := 2, ground := Ground.data }, { on := 1, ground := Ground.chain }], guard := none }) rfl (fun K hK => ?_) AllReadyH.nil
          go_simp
          refine (Q153.out _).mono ?_
          rintro e w' ⟨rfl, rfl⟩
          refine hK.out _ _ (by assumption) (fun _ => ?_)
          clear hK K
          try simp only [Act.put, List.setIfInBounds_toArray, List.set_cons_zero, List.set_cons_succ]
          refine wpAnyH_take (i := 4) (oi := { dst := some 154, op := Op.binOp BinOp.xor 96 (Operand.tmp 151) (Operand.tmp 153) 96, type := 96, pos := "ref.go:129", after := #[{ on := 1, ground := Ground.data }, { on := 3, ground := Ground.data }], guard := none }) (v := .int .u32 (N154 : Int)) rfl (by kernel_rfl) (by kernel_rfl) (by kernel_rfl) (fun _ _ _ h => h) (Or.inl ⟨by rfl, ?hy66_4⟩) (by assumption) ?rest66_4
          case hy66_4 => (intro w hSw; (try dsimp only at hSw); go_simp; try with_reducible rfl)
          try simp only [Act.put, List.setIfInBounds_toArray, List.set_cons_zero, List.set_cons_succ]
          refine wpAnyH_ready (rs := [6]) (by kernel_rfl) (by simp) ?_
          refine AllReadyH.cons (o := { dst := some 156, op := Op.call { callee := Callee.value (Operand.func 93), args := #[Operand.tmp 155, Operand.const (Value.int IntKind.u64 22)], argTypes := #[96, 51] }, type := 96, pos := "ref.go:129", after := #[{ on := 5, ground := Ground.data }, { on := 3, ground := Ground.chain }], guard := none }) rfl (fun K hK => ?_) AllReadyH.nil
          go_simp
          refine (Q156.out _).mono ?_
          rintro e w' ⟨rfl, rfl⟩
          refine hK.out _ _ (by assumption) (fun _ => ?_)
          clear hK K
          try simp only [Act.put, List.setIfInBounds_toArray, List.set_cons_zero, List.set_cons_succ]
          refine wpAnyH_take (i := 7) (oi := { dst := some 157, op := Op.binOp BinOp.xor 96 (Operand.tmp 154) (Operand.tmp 156) 96, type := 96, pos := "ref.go:129", after := #[{ on := 4, ground := Ground.data }, { on := 6, ground := Ground.data }], guard := none }) (v := .int .u32 (N157 : Int)) rfl (by kernel_rfl) (by kernel_rfl) (by kernel_rfl) (fun _ _ _ h => h) (Or.inl ⟨by rfl, ?hy66_7⟩) (by assumption) ?rest66_7
          case hy66_7 => (intro w hSw; (try dsimp only at hSw); go_simp; try with_reducible rfl)
          try simp only [Act.put, List.setIfInBounds_toArray, List.set_cons_zero, List.set_cons_succ]
          refine wpAnyH_take (i := 27) (oi := { dst := some 177, op := Op.binOp BinOp.add 96 (Operand.tmp 157) (Operand.tmp 176) 96, type := 96, pos := "ref.go:129", after := #[{ on := 7, ground := Ground.data }, { on := 26, ground := Ground.data }], guard := none }) (v := .int .u32 (N177 : Int)) rfl (by kernel_rfl) (by kernel_rfl) (by kernel_rfl) (fun _ _ _ h => h) (Or.inl ⟨by rfl, ?hy66_27⟩) (by assumption) ?rest66_27
          case hy66_27 => (intro w hSw; (try dsimp only at hSw); go_simp; try with_reducible rfl)
          try simp only [Act.put, List.setIfInBounds_toArray, List.set_cons_zero, List.set_cons_succ]
          refine wpAnyH_take (i := 28) (oi := { dst := some 16, op := Op.assign (Operand.tmp 177), type := 96, pos := "ref.go:129", after := #[{ on := 27, ground := Ground.data }, { on := 6, ground := Ground.chain }, { on := 0, ground := Ground.phase }, { on := 1, ground := Ground.phase }, { on := 2, ground := Ground.phase }, { on := 3, ground := Ground.phase }, { on := 4, ground := Ground.phase }, { on := 5, ground := Ground.phase }, { on := 6, ground := Ground.phase }, { on := 7, ground := Ground.phase }, { on := 8, ground := Ground.phase }, { on := 9, ground := Ground.phase }, { on := 10, ground := Ground.phase }, { on := 11, ground := Ground.phase }, { on := 12, ground := Ground.phase }, { on := 13, ground := Ground.phase }, { on := 14, ground := Ground.phase }, { on := 15, ground := Ground.phase }, { on := 16, ground := Ground.phase }, { on := 17, ground := Ground.phase }, { on := 18, ground := Ground.phase }, { on := 19, ground := Ground.phase }, { on := 20, ground := Ground.phase }, { on := 21, ground := Ground.phase }, { on := 22, ground := Ground.phase }, { on := 23, ground := Ground.phase }, { on := 24, ground := Ground.phase }, { on := 25, ground := Ground.phase }, { on := 26, ground := Ground.phase }, { on := 27, ground := Ground.phase }], guard := none }) (v := .int .u32 (N177 : Int)) rfl (by kernel_rfl) (by kernel_rfl) (by kernel_rfl) (fun _ _ _ h => h) (Or.inl ⟨by rfl, ?hy66_28⟩) (by assumption) ?rest66_28
          case hy66_28 => (intro w hSw; (try dsimp only at hSw); go_simp; try with_reducible rfl)
          try simp only [Act.put, List.setIfInBounds_toArray, List.set_cons_zero, List.set_cons_succ]
          refine wpAnyH_done (by kernel_rfl) ?_ _
          clear f154 f157 f162 f167 f168 f175 f176 f177
          have hlow : low R K X = R.h + (rr R.e 6 ^^^ rr R.e 11 ^^^ rr R.e 25) + (R.e &&& R.f ^^^ ~~~R.e &&& R.g) + K + X := rfl
          have hhigh : high R = (rr R.a 2 ^^^ rr R.a 13 ^^^ rr R.a 22) + (R.a &&& R.b ^^^ R.a &&& R.c ^^^ R.b &&& R.c) := rfl
          have hLow1 : (low R K X).toNat = N149 := by rw [hlow]; exact hN149
          have hHigh1 : (high R).toNat = N177 := by rw [hhigh]; exact hN177
          obtain ⟨N180, hN180⟩ : ∃ z, (low R K X + high R).toNat = z := ⟨_, rfl⟩
          obtain ⟨N190, hN190⟩ : ∃ z, (R.d + low R K X).toNat = z := ⟨_, rfl⟩
          have f180 : ((N149 : Int) + (N177 : Int)) % 4294967296 = (N180 : Int) := by rw [← hLow1, ← hHigh1, ← hN180]; exact add_w _ _
          have f190 : ((Nd : Int) + (N149 : Int)) % 4294967296 = (N190 : Int) := by rw [← hNd, ← hLow1, ← hN190]; exact add_w _ _
          have hdv7 : ¬ (dv : Int) < 7 := by omega
          have hdv7b : (7 : Int) ≤ (dv : Int) := by omega
          have hv7 : Rd wq wq.heap.size (some ⟨gV, 0, none⟩) 7 (((wvs (stL R)).drop 0).take 7) := HO.out.rd.cut (l := 0) (m := 7) (by omega) (fun _ => rfl)
          have hXb : Below wq.heap.size wq (wq.alloc (.cells #[.int .u32 (N180 : Int)] 96)) := (Below.refl _ _).alloc (Nat.le_refl _) _
          have hlit := Ow.lit1 wq 96 (.int .u32 (N180 : Int)) (base := wo.heap.size) (Nat.le_trans hbv.size HS.out.size)
          have HG := Lib.hid (⟨hNa, hNb, hNc, hNe, hNf, hNg, hN180, hN190⟩ : R.a.toNat = Na ∧ R.b.toNat = Nb ∧ R.c.toNat = Nc ∧ R.e.toNat = Ne ∧ R.f.toNat = Nf ∧ R.g.toNat = Ng ∧ (low R K X + high R).toNat = N180 ∧ (R.d + low R K X).toNat = N190)
          clear hlow hhigh hLow1 hHigh1 hNd hNa hNb hNc hNe hNf hNg hNh hN180 hN190
          go_upto_region 18 with (at_builtin; refine wp_app u32tyB rfl (.tmp 181) (.tmp 183) rfl rfl rfl hlit (hv7.below hXb (Nat.le_refl _)) (by intro u hu; exact wvs_one _ u (List.mem_of_mem_drop (List.mem_of_mem_take hu))) (by omega) (by omega) (by have := hbv.size; have := HS.out.size; simp; omega) ?_; intro A5 N5 d5 w5 ho5 hN5 hb5 hg5)
          have hN58 : N5 = 8 := by have := ho5.len; simpa [wvs, stL] using this.symm
          subst hN58
          rw [show [Value.int IntKind.u32 (N180 : Int)] ++ ((wvs (stL R)).drop 0).take 7 = [.int .u32 (N180 : Int), wv R.a, wv R.b, wv R.c, wv R.d, wv R.e, wv R.f, wv R.g] from rfl] at ho5
          obtain ⟨g5, rfl, hg51, hg52⟩ := ho5.at0 (by omega)
          have hs5 := ho5.set 4 (.int .u32 (N190 : Int)) (by omega)
          have c54 := hs5.2.2.1
          have z54 := hs5.2.2.2
          have hHd : wv R.d = .int .u32 (Nd : Int) := by unfold wv; rw [hNdk]
          rw [show ([Value.int IntKind.u32 (N180 : Int), wv R.a, wv R.b, wv R.c, wv R.d, wv R.e, wv R.f, wv R.g])[4]? = some (wv R.d) from rfl, hHd] at c54
          have hnew : ([Value.int IntKind.u32 (N180 : Int), wv R.a, wv R.b, wv R.c, wv R.d, wv R.e, wv R.f, wv R.g]).set 4 (.int .u32 (N190 : Int)) = wvs (stL (roundsN st cubes (wordsN L 64) (t + 1))) := by
            rw [HRN.out]
            show [Value.int IntKind.u32 (N180 : Int), wv R.a, wv R.b, wv R.c, .int .u32 (N190 : Int), wv R.e, wv R.f, wv R.g] = _
            rw [← HG.out.2.2.2.2.2.2.1, ← HG.out.2.2.2.2.2.2.2]
            rfl
          have ho6 := hs5.1
          rw [hnew] at ho6
          have hb6 : Below wo.heap.size wo (w5.setCell ⟨g5, 4, none⟩ (.int .u32 (N190 : Int))) := by
            have h1 : Below wo.heap.size wo w5 := ((hbv.trans (HS.out.mono hbv.size)).trans (hXb.mono (Nat.le_trans hbv.size HS.out.size))).trans hb5
            exact (Keep1.set w5 g5 4 _).below h1 (Nat.le_of_lt (Nat.lt_of_le_of_lt hg51 hg52)) hg51
          have H6 := Lib.hid (And.intro ho6 hb6)
          clear ho5 hs5 hnew ho6 hb6 hHd hb5 hg5 hlit hv7
          go_wp2_with fail
          exact ⟨⟨t + 1, _, d5, rfl, by go_num, by omega, H6⟩, by simp [intOf]; omega⟩
        · obtain rfl : t = 64 := by omega
          have k64v : ¬ ((64 : Nat) : Int) < 64 := by omega
          obtain ⟨w2, hw2⟩ : ∃ z, z = wr := ⟨_, rfl⟩
          subst hw2
          have HM : Hid (Ow w2 wo.heap.size 96 Av 8 dv (wvs (stL (roundsN st cubes (wordsN L 64) 64))) ∧ Below w.heap.size w w2) := Lib.hid ⟨HV.out.1, HRW.out.2.trans (HV.out.2.mono HRW.out.2.size)⟩
          go_wp2_with fail
          go_loopw [17, 193] (fun v i wr => ∃ (j : Nat) (A : Option Addr) (d : Nat), v = .slice A j d ∧ i = .int .i64 (j : Int) ∧ j ≤ 8 ∧ Hid (Ow wr w2.heap.size 96 A j d (wvs ((stL (mixed st (wordsN L 64))).take j)) ∧ Below w2.heap.size w2 wr)) (fun _ i _ => 8 - (intOf i).toNat)
          case atStart => exact ⟨0, none, 0, rfl, rfl, by omega, Lib.hid ⟨Ow.nil _ _ _, Below.refl _ _⟩⟩
          case round =>
            obtain ⟨j, Ao, do_, rfl, rfl, hj, HN⟩ := hrel
            by_cases hj8 : j < 8
            · have k8 : (j : Int) < 8 := by omega
              have hsd := H.out.1.below (HM.out.2.trans (HN.out.2.mono HM.out.2.size)) hB
              have hvd := HM.out.1.rd.below HN.out.2 (Nat.le_refl _)
              obtain ⟨bs0, os0, rfl, hbs, hcs⟩ := hsd.at_ hj8
              obtain ⟨bv0, ov0, rfl, hbv2, hcv⟩ := hvd.at_ hj8
              rw [wvs_at (stL st) j hj8] at hcs
              rw [wvs_at (stL (roundsN st cubes (wordsN L 64) 64)) j hj8] at hcv
              have hmx : (stL (mixed st (wordsN L 64))).take (j + 1) = (stL (mixed st (wordsN L 64))).take j ++ [(stL st).getD j 0 + (stL (roundsN st cubes (wordsN L 64) 64)).getD j 0] := mixed_at st (wordsN L 64) j hj8
              obtain ⟨xs, hxs⟩ : ∃ x, (stL st).getD j 0 = x := ⟨_, rfl⟩
              obtain ⟨xv, hxv⟩ : ∃ x, (stL (roundsN st cubes (wordsN L 64) 64)).getD j 0 = x := ⟨_, rfl⟩
              rw [hxs] at hcs hmx
              rw [hxv] at hcv hmx
              unfold wv at hcs hcv
              obtain ⟨Ns, hNs⟩ : ∃ z, xs.toNat = z := ⟨_, rfl⟩
              obtain ⟨Nv, hNv⟩ : ∃ z, xv.toNat = z := ⟨_, rfl⟩
              obtain ⟨Nz, hNz⟩ : ∃ z, (xs + xv).toNat = z := ⟨_, rfl⟩
              rw [hNs] at hcs
              rw [hNv] at hcv
              have fz : IntKind.u32.wrap ((Ns : Int) + (Nv : Int)) = (Nz : Int) := by rw [← hNs, ← hNv, ← hNz, wrap_u32]; exact add_w _ _
              have HMX := Lib.hid hmx
              have hbsr : bs0 < w2.heap.size := by have := HM.out.2.size; omega
              have hbs2 : w2.cell? ⟨bs0, os0 + j, none⟩ = some (.int .u32 (Ns : Int)) := by rw [← hcs]; exact (HN.out.2.cell (p := ⟨bs0, os0 + j, none⟩) hbsr).symm
              have hcv2 : w2.cell? ⟨bv0, ov0 + j, none⟩ = some (.int .u32 (Nv : Int)) := by rw [← hcv]; exact (HN.out.2.cell (p := ⟨bv0, ov0 + j, none⟩) hbv2).symm
              clear hcs hcv hmx hxs hxv hNs hNv hsd hvd
              go_upto_region 24 with fail
              have hdq := (HN.out.1).drew
              have hS0 : Below w2.heap.size w2 wr.drew := below_drew' HN.out.2
              obtain ⟨wq, hwq⟩ : ∃ z, wr.drew = z := ⟨_, rfl⟩
              refine wp_region_held_drew (S := fun y => Below w2.heap.size w2 y) (by kernel_rfl) hS0 (fun hHeld => ?_)
              rw [hwq] at hHeld hS0 hdq ⊢
              have HS := Lib.hid hS0
              have HO := Lib.hid hdq
              have HOq := HO
              clear hwq hS0 hdq
              refine wpAnyH_take (i := 0) (oi := { dst := some 196, op := Op.move (Operand.tmp 17), type := 97, pos := "ref.go:135", after := #[], guard := none }) (v := .slice Ao j do_) rfl (by kernel_rfl) (by kernel_rfl) (by kernel_rfl) (fun _ _ _ h => h) (Or.inl ⟨by rfl, ?hy77_0⟩) (by assumption) ?rest77_0
              case hy77_0 => (intro w hSw; (try dsimp only at hSw); go_simp; try with_reducible rfl)
              try simp only [Act.put, List.setIfInBounds_toArray, List.set_cons_zero, List.set_cons_succ]
              refine wpAnyH_take (i := 1) (oi := { dst := some 197, op := Op.move (Operand.tmp 0), type := 97, pos := "ref.go:135", after := #[], guard := none }) (v := .slice (some ⟨bs0, os0, none⟩) 8 c0) rfl (by kernel_rfl) (by kernel_rfl) (by kernel_rfl) (fun _ _ _ h => h) (Or.inl ⟨by rfl, ?hy77_1⟩) (by assumption) ?rest77_1
              case hy77_1 => (intro w hSw; (try dsimp only at hSw); go_simp; try with_reducible rfl)
              try simp only [Act.put, List.setIfInBounds_toArray, List.set_cons_zero, List.set_cons_succ]
              refine wpAnyH_take (i := 2) (oi := { dst := some 198, op := Op.move (Operand.tmp 18), type := 3, pos := "ref.go:135", after := #[], guard := none }) (v := .int .i64 (j : Int)) rfl (by kernel_rfl) (by kernel_rfl) (by kernel_rfl) (fun _ _ _ h => h) (Or.inl ⟨by rfl, ?hy77_2⟩) (by assumption) ?rest77_2
              case hy77_2 => (intro w hSw; (try dsimp only at hSw); go_simp; try with_reducible rfl)
              try simp only [Act.put, List.setIfInBounds_toArray, List.set_cons_zero, List.set_cons_succ]
              refine wpAnyH_take (i := 3) (oi := { dst := some 199, op := Op.indexAddr 97 (Operand.tmp 197) (Operand.tmp 198), type := 0, pos := "ref.go:135", after := #[{ on := 1, ground := Ground.data }, { on := 2, ground := Ground.data }], guard := none }) (v := .pointer (some ⟨bs0, os0 + j, none⟩)) rfl (by kernel_rfl) (by kernel_rfl) (by kernel_rfl) (fun _ _ _ h => h) (Or.inl ⟨by rfl, ?hy77_3⟩) (by assumption) ?rest77_3
              case hy77_3 => (intro w hSw; (try dsimp only at hSw); go_simp; try with_reducible rfl)
              try simp only [Act.put, List.setIfInBounds_toArray, List.set_cons_zero, List.set_cons_succ]
              refine wpAnyH_take (i := 4) (oi := { dst := some 200, op := Op.load 96 (Operand.tmp 199), type := 96, pos := "ref.go:135", after := #[{ on := 3, ground := Ground.data }], guard := none }) (v := .int .u32 (Ns : Int)) rfl (by kernel_rfl) (by kernel_rfl) (by kernel_rfl) (fun _ _ _ h => h) (Or.inl ⟨by rfl, ?hy77_4⟩) (by assumption) ?rest77_4
              case hy77_4 => (intro w1 hSw; have hq := (Below.cell hSw (p := ⟨bs0, os0 + j, none⟩) hbsr).trans hbs2; go_simp; try with_reducible rfl)
              try simp only [Act.put, List.setIfInBounds_toArray, List.set_cons_zero, List.set_cons_succ]
              refine wpAnyH_take (i := 5) (oi := { dst := some 201, op := Op.move (Operand.tmp 11), type := 97, pos := "ref.go:135", after := #[], guard := none }) (v := .slice (some ⟨bv0, ov0, none⟩) 8 dv) rfl (by kernel_rfl) (by kernel_rfl) (by kernel_rfl) (fun _ _ _ h => h) (Or.inl ⟨by rfl, ?hy77_5⟩) (by assumption) ?rest77_5
              case hy77_5 => (intro w hSw; (try dsimp only at hSw); go_simp; try with_reducible rfl)
              try simp only [Act.put, List.setIfInBounds_toArray, List.set_cons_zero, List.set_cons_succ]
              refine wpAnyH_take (i := 6) (oi := { dst := some 202, op := Op.move (Operand.tmp 18), type := 3, pos := "ref.go:135", after := #[], guard := none }) (v := .int .i64 (j : Int)) rfl (by kernel_rfl) (by kernel_rfl) (by kernel_rfl) (fun _ _ _ h => h) (Or.inl ⟨by rfl, ?hy77_6⟩) (by assumption) ?rest77_6
              case hy77_6 => (intro w hSw; (try dsimp only at hSw); go_simp; try with_reducible rfl)
              try simp only [Act.put, List.setIfInBounds_toArray, List.set_cons_zero, List.set_cons_succ]
              refine wpAnyH_take (i := 7) (oi := { dst := some 203, op := Op.indexAddr 97 (Operand.tmp 201) (Operand.tmp 202), type := 0, pos := "ref.go:135", after := #[{ on := 5, ground := Ground.data }, { on := 6, ground := Ground.data }], guard := none }) (v := .pointer (some ⟨bv0, ov0 + j, none⟩)) rfl (by kernel_rfl) (by kernel_rfl) (by kernel_rfl) (fun _ _ _ h => h) (Or.inl ⟨by rfl, ?hy77_7⟩) (by assumption) ?rest77_7
              case hy77_7 => (intro w hSw; (try dsimp only at hSw); go_simp; try with_reducible rfl)
              try simp only [Act.put, List.setIfInBounds_toArray, List.set_cons_zero, List.set_cons_succ]
              refine wpAnyH_take (i := 8) (oi := { dst := some 204, op := Op.load 96 (Operand.tmp 203), type := 96, pos := "ref.go:135", after := #[{ on := 7, ground := Ground.data }], guard := none }) (v := .int .u32 (Nv : Int)) rfl (by kernel_rfl) (by kernel_rfl) (by kernel_rfl) (fun _ _ _ h => h) (Or.inl ⟨by rfl, ?hy77_8⟩) (by assumption) ?rest77_8
              case hy77_8 => (intro w1 hSw; have hq := (Below.cell hSw (p := ⟨bv0, ov0 + j, none⟩) hbv2).trans hcv2; go_simp; try with_reducible rfl)
              try simp only [Act.put, List.setIfInBounds_toArray, List.set_cons_zero, List.set_cons_succ]
              refine wpAnyH_take (i := 9) (oi := { dst := some 205, op := Op.binOp BinOp.add 96 (Operand.tmp 200) (Operand.tmp 204) 96, type := 96, pos := "ref.go:135", after := #[{ on := 4, ground := Ground.data }, { on := 8, ground := Ground.data }], guard := none }) (v := .int .u32 (Nz : Int)) rfl (by kernel_rfl) (by kernel_rfl) (by kernel_rfl) (fun _ _ _ h => h) (Or.inl ⟨by rfl, ?hy77_9⟩) (by assumption) ?rest77_9
              case hy77_9 => (intro w hSw; (try dsimp only at hSw); go_simp; try with_reducible rfl)
              try simp only [Act.put, List.setIfInBounds_toArray, List.set_cons_zero, List.set_cons_succ]
              refine wpAnyH_ready (rs := [10]) (by kernel_rfl) (by simp) ?_
              refine AllReadyH.cons (o := { dst := some 206, op := Op.buildSlice 97 1 #[(0, Operand.tmp 205)], type := 97, pos := "ref.go:135", after := #[{ on := 9, ground := Ground.data }], guard := none }) rfl (fun K hK => ?_) AllReadyH.nil
              refine (if_pos (by rfl)).mpr ?_
              unfold Oper.wp
              go_simp
              have hV0 := (Below.alloc HS.out HS.out.size (.cells #[.int .u32 (Nz : Int)] 96) : Below w2.heap.size w2 _)
              refine hK.out _ _ hV0 (fun _ => ?_)
              clear hK K
              try simp only [Act.put, List.setIfInBounds_toArray, List.set_cons_zero, List.set_cons_succ]
              refine wpAnyH_ready (rs := [11]) (by kernel_rfl) (by simp) ?_
              refine AllReadyH.cons (o := { dst := some 207, op := Op.call { callee := Callee.builtin Builtin.append, args := #[Operand.tmp 196, Operand.tmp 206], argTypes := #[97, 97] }, type := 97, pos := "ref.go:135", after := #[{ on := 0, ground := Ground.data }, { on := 10, ground := Ground.data }], guard := none }) rfl (fun K hK => ?_) AllReadyH.nil
              refine step_app u32tyB rfl (.tmp 196) (.tmp 206) rfl rfl rfl ((HO.out).alloc _) (Rd.one _ _ _) (one1 rfl) (by omega) (by omega) (by simp; have := (HS.out).size; omega) ?_
              intro A3 n3 d3 w3 ho3 hn3 hb3 hg3
              have hb33 := hV0.trans hb3
              refine hK.out _ _ hb33 (fun _ => ?_)
              clear hK K
              try simp only [Act.put, List.setIfInBounds_toArray, List.set_cons_zero, List.set_cons_succ]
              refine wpAnyH_take (i := 12) (oi := { dst := some 17, op := Op.assign (Operand.tmp 207), type := 97, pos := "ref.go:135", after := #[{ on := 11, ground := Ground.data }, { on := 11, ground := Ground.chain }, { on := 0, ground := Ground.phase }, { on := 1, ground := Ground.phase }, { on := 2, ground := Ground.phase }, { on := 3, ground := Ground.phase }, { on := 4, ground := Ground.phase }, { on := 5, ground := Ground.phase }, { on := 6, ground := Ground.phase }, { on := 7, ground := Ground.phase }, { on := 8, ground := Ground.phase }, { on := 9, ground := Ground.phase }, { on := 10, ground := Ground.phase }, { on := 11, ground := Ground.phase }], guard := none }) (v := .slice A3 n3 d3) rfl (by kernel_rfl) (by kernel_rfl) (by kernel_rfl) (fun _ _ _ h => h) (Or.inl ⟨by rfl, ?hy77_12⟩) (by assumption) ?rest77_12
              case hy77_12 => (intro w hSw; (try dsimp only at hSw); go_simp; try with_reducible rfl)
              try simp only [Act.put, List.setIfInBounds_toArray, List.set_cons_zero, List.set_cons_succ]
              refine wpAnyH_done (by kernel_rfl) ?_ _
              clear fz hbs2 hcv2
              go_wp2_with fail
              have hn3t : n3 = j + 1 := by have := ho3.len; simp [wvs, stL] at this; omega
              subst hn3t
              have hwn : wvs ((stL (mixed st (wordsN L 64))).take (j + 1)) = wvs ((stL (mixed st (wordsN L 64))).take j) ++ [.int .u32 (Nz : Int)] := by
                rw [HMX.out, ← hNz]
                simp [wvs, wv]
              rw [← hwn] at ho3
              exact ⟨⟨j + 1, A3, d3, rfl, by go_num, by omega, Lib.hid ⟨ho3, hb33⟩⟩, by simp [intOf]; omega⟩
            · obtain rfl : j = 8 := by omega
              have k8n : ¬ ((8 : Nat) : Int) < 8 := by omega
              go_wp2_with fail
              go_ret
              exact ⟨Ao, do_, rfl, HN.out.1.base HM.out.2.size, HM.out.2.trans (HN.out.2.mono HM.out.2.size)⟩
end Go.Proofs.YtbcgnacfhpahkaaDoor.dg
namespace Go.Proofs.YtbcgnacfhpahkaaDoor.dg
open Go.RowKit Mem DM
set_option linter.unusedVariables false
set_option linter.unusedSimpArgs false
/-- a number's k-th byte of eight, the highest first -/
def be8 (N k : Nat) : UInt8 := UInt8.ofNat (N / 2 ^ (8 * (7 - k)))
theorem be8_all (N : Nat) (h : N < 4294967296) : (List.range 8).map (be8 N) = bytes4 (UInt32.ofNat (N / 4294967296)) ++ bytes4 (UInt32.ofNat N) := by
  have h0 : N / 4294967296 = 0 := Nat.div_eq_of_lt h
  have h1 : (UInt32.ofNat N).toNat = N := by rw [UInt32.toNat_ofNat']; exact Nat.mod_eq_of_lt h
  have z : ∀ k, 32 ≤ k → N / 2 ^ k = 0 := fun k hk => Nat.div_eq_of_lt (Nat.lt_of_lt_of_le h (by have := Nat.pow_le_pow_right (show 0 < 2 by omega) hk; simpa using this))
  rw [h0]
  unfold bytes4
  rw [h1]
  show [be8 N 0, be8 N 1, be8 N 2, be8 N 3, be8 N 4, be8 N 5, be8 N 6, be8 N 7] = _
  unfold be8
  simp only [z 56 (by omega), z 48 (by omega), z 40 (by omega), z 32 (by omega), show 8 * (7 - 0) = 56 from rfl, show 8 * (7 - 1) = 48 from rfl, show 8 * (7 - 2) = 40 from rfl, show 8 * (7 - 3) = 32 from rfl, show 8 * (7 - 4) = 24 from rfl, show 8 * (7 - 5) = 16 from rfl, show 8 * (7 - 6) = 8 from rfl, show 8 * (7 - 7) = 0 from rfl, show (2 : Nat) ^ 24 = 16777216 from rfl, show (2 : Nat) ^ 16 = 65536 from rfl, show (2 : Nat) ^ 8 = 256 from rfl, show (2 : Nat) ^ 0 = 1 from rfl, Nat.div_one]
  rfl
theorem be8_step (N k : Nat) (h : k < 8) : ((List.range 8).map (be8 N)).take (k + 1) = ((List.range 8).map (be8 N)).take k ++ [be8 N k] := by
  rw [List.take_succ_eq_append_getElem (by simpa using h)]
  simp
def mid (l : List UInt8) (z : Nat) : List UInt8 := l ++ 128 :: List.replicate z 0
theorem mid_len (l : List UInt8) (z : Nat) : (mid l z).length = l.length + 1 + z := by simp [mid]; omega
theorem mid_step (l : List UInt8) (z : Nat) : mid l (z + 1) = mid l z ++ [0] := by
  unfold mid
  rw [List.replicate_succ', List.append_assoc]
  rfl
theorem padded_mid (l : List UInt8) (h : 8 * l.length < 4294967296) : padded l = mid l ((119 - l.length % 64) % 64) ++ (List.range 8).map (be8 (8 * l.length)) := by
  rw [be8_all _ h]
  unfold padded ending mid
  simp
def slen : Value → Nat
  | .slice _ N _ => N
  | _ => 0
theorem range_setD {w : World} {b : Nat} {cs : List Value} (h : w.rangeAt b 0 cs) (i : Nat) (v : Value) : (w.setCell ⟨b, i, none⟩ v).rangeAt b 0 (cs.set i v) := fun j u hu => by
  rw [Nat.zero_add]
  by_cases e : i = j
  · subst e
    have hi : i < cs.length := by
      have := (List.getElem?_eq_some_iff.1 hu).1
      simpa using this
    rw [List.getElem?_set_self hi] at hu
    injection hu with hu
    subst hu
    have := h i cs[i] (List.getElem?_eq_getElem hi)
    rw [Nat.zero_add] at this
    exact World.cell?_setCell_same _ _ _ this
  · rw [List.getElem?_set_ne e] at hu
    have := h j u hu
    rw [Nat.zero_add] at this
    exact (World.cell?_setCell_other _ _ _ _ (fun e2 => by first | exact e (congrArg Addr.off e2).symm | exact e (congrArg Addr.off e2))).trans this
theorem there_setD {w : World} {b' o' n : Nat} (h : w.there b' o' n) (b i : Nat) (v : Value) : (w.setCell ⟨b, i, none⟩ v).there b' o' n := by
  have := World.there_setCells h b i [v]
  simpa [World.setCells] using this
theorem wp_buildD {P : Program} {ops : Array Oper} {rest : List Oper} {o : Oper} {a : Act} {w : World} {Q : Exit → Act → World → Prop} (hw : Region.wanted o (yielded ops a.tmps) = true) (t : TypeId) (parts : Array (Nat × Operand)) (ho : o.op = .build t parts) (v : Value)
    (hrun : (Instr.build t (parts.map fun (i, x) => (i, a.eval x))).run P w = .ok v w) (h : wpList P ops Q rest (a.put o.dst v) w) : wpList P ops Q (o :: rest) a w :=
  wpList_step fun K hK => by
    rw [if_pos hw]
    unfold Oper.wp execOp
    simp only [ho, Sem.run_bind, Result.andThen_ok, hrun]
    exact hK _ _ h
theorem build_z32 (w : World) : (Instr.build 23 #[]).run Tryd.prog w = .ok (.agg z32.toArray) w := by kernel_rfl
/-- the bytes of the first I words, and of the next one the first J -/
def inN (ws : List UInt32) (I J : Nat) : List UInt8 := (ws.take I).flatMap bytes4 ++ ((bytes4 (ws.getD I 0)).take J ++ List.replicate (32 - 4 * I - J) 0)
theorem inN_zero (ws : List UInt32) (I : Nat) : inN ws I 0 = outN ws I := by simp [inN, outN]
theorem inN_four (ws : List UInt32) (I : Nat) (h : ws.length = 8) (hI : I < 8) : inN ws I 4 = outN ws (I + 1) := by
  unfold inN outN
  have hIw : I < ws.length := by omega
  rw [← List.take_append_getElem hIw, List.flatMap_append, List.append_assoc]
  have e : ws.getD I 0 = ws[I] := by simp [hIw]
  rw [e, show (bytes4 ws[I]).take 4 = bytes4 ws[I] from rfl, show 32 - 4 * I - 4 = 32 - 4 * (I + 1) by omega]
  simp
theorem inN_step (ws : List UInt32) (I J : Nat) (h : ws.length = 8) (hI : I < 8) (hJ : J < 4) : (inN ws I J).set (4 * I + J) ((bytes4 (ws.getD I 0)).getD J 0) = inN ws I (J + 1) := by
  have hl : ((ws.take I).flatMap bytes4).length = 4 * I := by rw [flat_len, List.length_take]; omega
  have hb : (bytes4 (ws.getD I 0)).length = 4 := rfl
  have ht : ((bytes4 (ws.getD I 0)).take J).length = J := by rw [List.length_take, hb]; omega
  unfold inN
  obtain ⟨r, hr⟩ : ∃ r, 32 - 4 * I - J = r + 1 := ⟨32 - 4 * I - J - 1, by omega⟩
  rw [List.set_append_right _ _ (by omega), hl, show 4 * I + J - 4 * I = J by omega, List.set_append_right _ _ (by omega), ht, Nat.sub_self, hr, List.replicate_succ, List.set_cons_zero]
  rw [show 32 - 4 * I - (J + 1) = r by omega, List.take_succ_eq_append_getElem (by rw [hb]; exact hJ), List.append_assoc]
  have e : (bytes4 (ws.getD I 0)).getD J 0 = (bytes4 (ws.getD I 0))[J]'(by rw [hb]; exact hJ) := by rw [List.getD_eq_getElem?_getD, List.getElem?_eq_getElem (by rw [hb]; exact hJ)]; rfl
  rw [e]
  rfl
set_option maxRecDepth 100000 in
set_option maxHeartbeats 8000000 in
theorem refSum_any (A0 A1 A2 : Option Addr) (n c0 c1 c2 B : Nat) (l : List UInt8) (w : World) (hs : Rd w B A0 8 (wvs roots)) (hk : Rd w B A1 64 (wvs cubes)) (hb : Rd w B A2 n (bv l)) (hB : B ≤ w.heap.size) (hn : n ≤ 1048576) (hc0 : 8 ≤ c0) :
    Calls Tryd.prog 60 #[.slice A0 8 c0, .slice A1 64 c1, .slice A2 n c2] w fun e w' => e = .returned (.agg (bv (digest l)).toArray) ∧ Below w.heap.size w w' := by
  have hl : l.length = n := by rw [← hb.len, bv_len]
  have hz32 : z32.length = 32 := by simp [z32, bv_len]
  have hth := there_new w z32 23
  rw [hz32] at hth
  have hW0 : Below w.heap.size w (w.alloc (.cells z32.toArray 23)) := (Below.refl _ _).alloc (Nat.le_refl _) _
  have hWs : (w.alloc (.cells z32.toArray 23)).heap.size = w.heap.size + 1 := by simp
  obtain ⟨Z3, hZ3⟩ : ∃ z, z32.toArray = z := ⟨_, rfl⟩
  rw [hZ3] at hth hW0 hWs
  obtain ⟨W, hW⟩ : ∃ z, w.alloc (.cells Z3 23) = z := ⟨_, rfl⟩
  rw [hW] at hth hW0 hWs
  obtain ⟨g0, hg0⟩ : ∃ z, w.heap.size = z := ⟨_, rfl⟩
  rw [hg0] at hth hW0 hWs
  have H := Lib.hid (And.intro (hs.below hW0 (by rw [← hg0]; exact hB)) (And.intro (hk.below hW0 (by rw [← hg0]; exact hB)) (And.intro (hb.below hW0 (by rw [← hg0]; exact hB)) (And.intro hth hW0))))
  have HL := Lib.hid hl
  have HG := Lib.hid hg0
  clear hs hk hb hth hl
  have hB2 : B ≤ g0 := by rw [← hg0]; exact hB
  rw [hg0]
  go_enter Tryd.func60, Tryd.ntmps60
  go_upto_region 1 with fail
  show Code.wp _ _ _ _ (w.alloc (.cells z32.toArray 23))
  rw [hZ3, hW]
  have hW1 : Below (g0 + 1) W (W.alloc (.cells #[] 5)) := (Below.refl _ _).alloc (by rw [hWs]; exact Nat.le_refl _) _
  have hlit := Ow.lit0 W 5 (base := g0 + 1) (by rw [hWs]; exact Nat.le_refl _)
  have hWlt : g0 < W.heap.size := by rw [hWs]; exact Nat.lt_succ_self _
  have hWle : g0 + 1 ≤ W.heap.size := hWlt
  clear hWs
  go_upto_region 2 with (at_builtin; refine wp_app u8ty rfl (.tmp 14) (.tmp 15) rfl rfl rfl hlit (H.out.2.2.1.below hW1 (by omega)) (bv_one _) (by omega) (by omega) (by simp; omega) ?_; intro A3 N3 d3 w3 ho3 hN3 hb3 hg3)
  have hn3 : N3 = n := by have := ho3.len; rw [List.nil_append, bv_len] at this; rw [← this]; exact HL.out
  subst hn3
  rw [List.nil_append] at ho3
  have hb13 := hW1.trans hb3
  have hs13 : g0 + 1 ≤ w3.heap.size := Nat.le_trans hWle (Nat.le_trans hW1.size hb3.size)
  have hlit3 : Rd (w3.alloc (.cells #[.int .u8 128] 5)) (w3.heap.size + 1) (some ⟨w3.heap.size, 0, none⟩) 1 [.int .u8 128] := Rd.one _ _ _
  have HO3 := Lib.hid (And.intro ho3 hb13)
  have f8 : ((8 * N3 : Nat) : Int) = 8 * (N3 : Int) := by omega
  clear hW1 hlit ho3 hb3 hg3 hb13
  go_upto_region 4 with (at_builtin; refine wp_app u8ty rfl (.tmp 20) (.tmp 21) rfl rfl rfl (HO3.out.1.alloc _) hlit3 (by intro u hu; simp at hu; subst hu; rfl) (by omega) (by omega) (by simp; omega) ?_; intro A4 N4 d4 w4 ho4 hN4 hb4 hg4)
  have hn4 : N4 = N3 + 1 := by have := ho4.len; rw [List.length_append, bv_len, HL.out] at this; simpa using this.symm
  subst hn4
  have hm0 : mid l 0 = l ++ [128] := rfl
  rw [show bv l ++ [Value.int IntKind.u8 128] = bv (mid l 0) by rw [hm0, bv_app]; rfl] at ho4
  have hb14 : Below (g0 + 1) W w4 := HO3.out.2.trans (((Below.refl _ _).alloc (by omega) _ : Below (g0 + 1) w3 (w3.alloc (.cells #[.int .u8 128] 5))).trans hb4)
  have HO4 := Lib.hid (And.intro ho4 hb14)
  clear ho4 hb14 hb4 hg4 hlit3
  obtain ⟨Z, hZ⟩ : ∃ Z, (119 - N3 % 64) % 64 = Z := ⟨_, rfl⟩
  have HZ := Lib.hid hZ
  clear hZ
  go_loopw [2] (fun v wr => ∃ (z N : Nat) (A : Option Addr) (d : Nat), v = .slice A N d ∧ z ≤ Z ∧ N = N3 + 1 + z ∧ Hid (Ow wr (g0 + 1) 5 A N d (bv (mid l z)) ∧ Below (g0 + 1) W wr)) (fun v _ => (N3 + 1 + Z) - slen v)
  case atStart => exact ⟨0, N3 + 1, A4, d4, rfl, Nat.zero_le _, rfl, HO4⟩
  case round =>
    obtain ⟨z, N, A, d, rfl, hz, hN, HR⟩ := hrel
    have hws : g0 + 1 ≤ wr.heap.size := Nat.le_trans hWle HR.out.2.size
    have hZ := HZ.out
    by_cases hzl : z < Z
    · have hc : ((N : Int) % 64 != 56) = true := bne_iff_ne.2 (by omega)
      have hNb : N ≤ 2000000 := by omega
      have hlit : Rd (wr.alloc (.cells #[.int .u8 0] 5)) (wr.heap.size + 1) (some ⟨wr.heap.size, 0, none⟩) 1 [.int .u8 0] := Rd.one _ _ _
      have HN := Lib.hid hN
      clear hZ hN
      go_wp2_with (at_builtin; refine wp_app u8ty rfl (.tmp 27) (.tmp 28) rfl rfl rfl (HR.out.1.alloc _) hlit (by intro u hu; simp at hu; subst hu; rfl) (by omega) (by omega) (by simp; omega) ?_; intro A5 N5 d5 w5 ho5 hN5 hb5 hg5)
      have hn5 : N5 = N + 1 := by have := ho5.len; rw [List.length_append, bv_len, mid_len] at this; have := HN.out; have := HL.out; simp at *; omega
      subst hn5
      rw [show bv (mid l z) ++ [Value.int IntKind.u8 0] = bv (mid l (z + 1)) by rw [mid_step, bv_app]; rfl] at ho5
      have hb15 : Below (g0 + 1) W w5 := HR.out.2.trans (((Below.refl _ _).alloc hws _ : Below (g0 + 1) wr (wr.alloc (.cells #[.int .u8 0] 5))).trans hb5)
      exact ⟨⟨z + 1, N + 1, A5, d5, rfl, hzl, by have := HN.out; omega, Lib.hid ⟨ho5, hb15⟩⟩, by simp only [slen]; have := HN.out; omega⟩
    · obtain rfl : z = Z := by omega
      have hc : ((N : Int) % 64 != 56) = false := by
        have : (N : Int) % 64 = 56 := by omega
        rw [this]; rfl
      have HN := Lib.hid hN
      clear hZ hN
      obtain ⟨wp, hwp⟩ : ∃ x, x = wr := ⟨_, rfl⟩
      subst hwp
      have HP := HR
      clear HR
      go_wp2_with fail
      go_loopw [2, 8] (fun v i wr => ∃ (k Nq : Nat) (A : Option Addr) (d : Nat) (y : Int), v = .slice A Nq d ∧ i = .int .i64 y ∧ k ≤ 8 ∧ Hid (y = 7 - (k : Int)) ∧ Nq = N + k ∧ Hid (Ow wr (g0 + 1) 5 A Nq d (bv (mid l z ++ ((List.range 8).map (be8 (8 * N3))).take k)) ∧ Below (g0 + 1) W wr)) (fun _ i _ => (intOf i + 1).toNat)
      case atStart => exact ⟨0, N, A, d, 7, rfl, rfl, by omega, Lib.hid (by omega), by omega, Lib.hid ⟨by simpa using HP.out.1, HP.out.2⟩⟩
      case round =>
        obtain ⟨k, Nq, Aq, dq, y, rfl, rfl, hk8, HY, hNq, HQ⟩ := hrel
        have hws2 : g0 + 1 ≤ wr.heap.size := Nat.le_trans hWle HQ.out.2.size
        have HNq := Lib.hid hNq
        have hNqb : Nq ≤ 3000000 := by have := HN.out; have := HZ.out; omega
        clear hNq
        by_cases hk : k < 8
        · have hbe := be8_step (8 * N3) k hk
          have HBE := Lib.hid hbe
          clear hbe
          rcases (show k = 0 ∨ k = 1 ∨ k = 2 ∨ k = 3 ∨ k = 4 ∨ k = 5 ∨ k = 6 ∨ k = 7 by omega) with hk0 | hk1 | hk2 | hk3 | hk4 | hk5 | hk6 | hk7
          · have hy : y = 7 := by have := HY.out; omega
            subst hy
            go_upto_region 8 with (at_builtin; refine wp_app u8ty rfl (.tmp 34) (.tmp 41) rfl rfl rfl (HQ.out.1.alloc _) (Rd.one _ _ _) (one1 rfl) (by omega) (by omega) (by simp; omega) ?_; intro A6 N6 d6 w6 ho6 hN6 hb6 hg6)
            obtain ⟨V, hV, ho7⟩ : ∃ V : Int, V = ((be8 (8 * N3) 0).toNat : Int) ∧ Ow w6 (g0 + 1) 5 A6 N6 d6 (bv (mid l z ++ ((List.range 8).map (be8 (8 * N3))).take k) ++ [.int .u8 V]) := ⟨_, (by show _ = ((UInt8.ofNat (8 * N3 / 2 ^ 56)).toNat : Int); rw [UInt8.toNat_ofNat']; omega), ho6⟩
            have hb7 : Below (g0 + 1) W w6 := HQ.out.2.trans (((Below.refl _ _).alloc hws2 _).trans hb6)
            have hN6q : N6 = N + (k + 1) := by have h1 := ho7.len; have h2 := HQ.out.1.len; rw [List.length_append, h2] at h1; have h3 := HNq.out; simp at h1; omega
            rw [hV, show [Value.int IntKind.u8 ((be8 (8 * N3) 0).toNat : Int)] = bv [be8 (8 * N3) k] by rw [hk0]; rfl, ← bv_app, List.append_assoc, ← HBE.out] at ho7
            have H7 := Lib.hid (And.intro ho7 hb7)
            have hy2 : (7 : Int) - 1 = 7 - ((k + 1 : Nat) : Int) := by omega
            have HY2 := Lib.hid hy2
            clear hV ho7 hb7 hb6 hg6 ho6 hy2
            go_wp2_with fail
            exact ⟨⟨k + 1, N6, A6, d6, _, rfl, rfl, by omega, HY2, hN6q, H7⟩, by simp [intOf]⟩
          · have hy : y = 6 := by have := HY.out; omega
            subst hy
            go_upto_region 8 with (at_builtin; refine wp_app u8ty rfl (.tmp 34) (.tmp 41) rfl rfl rfl (HQ.out.1.alloc _) (Rd.one _ _ _) (one1 rfl) (by omega) (by omega) (by simp; omega) ?_; intro A6 N6 d6 w6 ho6 hN6 hb6 hg6)
            obtain ⟨V, hV, ho7⟩ : ∃ V : Int, V = ((be8 (8 * N3) 1).toNat : Int) ∧ Ow w6 (g0 + 1) 5 A6 N6 d6 (bv (mid l z ++ ((List.range 8).map (be8 (8 * N3))).take k) ++ [.int .u8 V]) := ⟨_, (by show _ = ((UInt8.ofNat (8 * N3 / 2 ^ 48)).toNat : Int); rw [UInt8.toNat_ofNat']; omega), ho6⟩
            have hb7 : Below (g0 + 1) W w6 := HQ.out.2.trans (((Below.refl _ _).alloc hws2 _).trans hb6)
            have hN6q : N6 = N + (k + 1) := by have h1 := ho7.len; have h2 := HQ.out.1.len; rw [List.length_append, h2] at h1; have h3 := HNq.out; simp at h1; omega
            rw [hV, show [Value.int IntKind.u8 ((be8 (8 * N3) 1).toNat : Int)] = bv [be8 (8 * N3) k] by rw [hk1]; rfl, ← bv_app, List.append_assoc, ← HBE.out] at ho7
            have H7 := Lib.hid (And.intro ho7 hb7)
            have hy2 : (6 : Int) - 1 = 7 - ((k + 1 : Nat) : Int) := by omega
            have HY2 := Lib.hid hy2
            clear hV ho7 hb7 hb6 hg6 ho6 hy2
            go_wp2_with fail
            exact ⟨⟨k + 1, N6, A6, d6, _, rfl, rfl, by omega, HY2, hN6q, H7⟩, by simp [intOf]⟩
          · have hy : y = 5 := by have := HY.out; omega
            subst hy
            go_upto_region 8 with (at_builtin; refine wp_app u8ty rfl (.tmp 34) (.tmp 41) rfl rfl rfl (HQ.out.1.alloc _) (Rd.one _ _ _) (one1 rfl) (by omega) (by omega) (by simp; omega) ?_; intro A6 N6 d6 w6 ho6 hN6 hb6 hg6)
            obtain ⟨V, hV, ho7⟩ : ∃ V : Int, V = ((be8 (8 * N3) 2).toNat : Int) ∧ Ow w6 (g0 + 1) 5 A6 N6 d6 (bv (mid l z ++ ((List.range 8).map (be8 (8 * N3))).take k) ++ [.int .u8 V]) := ⟨_, (by show _ = ((UInt8.ofNat (8 * N3 / 2 ^ 40)).toNat : Int); rw [UInt8.toNat_ofNat']; omega), ho6⟩
            have hb7 : Below (g0 + 1) W w6 := HQ.out.2.trans (((Below.refl _ _).alloc hws2 _).trans hb6)
            have hN6q : N6 = N + (k + 1) := by have h1 := ho7.len; have h2 := HQ.out.1.len; rw [List.length_append, h2] at h1; have h3 := HNq.out; simp at h1; omega
            rw [hV, show [Value.int IntKind.u8 ((be8 (8 * N3) 2).toNat : Int)] = bv [be8 (8 * N3) k] by rw [hk2]; rfl, ← bv_app, List.append_assoc, ← HBE.out] at ho7
            have H7 := Lib.hid (And.intro ho7 hb7)
            have hy2 : (5 : Int) - 1 = 7 - ((k + 1 : Nat) : Int) := by omega
            have HY2 := Lib.hid hy2
            clear hV ho7 hb7 hb6 hg6 ho6 hy2
            go_wp2_with fail
            exact ⟨⟨k + 1, N6, A6, d6, _, rfl, rfl, by omega, HY2, hN6q, H7⟩, by simp [intOf]⟩
          · have hy : y = 4 := by have := HY.out; omega
            subst hy
            go_upto_region 8 with (at_builtin; refine wp_app u8ty rfl (.tmp 34) (.tmp 41) rfl rfl rfl (HQ.out.1.alloc _) (Rd.one _ _ _) (one1 rfl) (by omega) (by omega) (by simp; omega) ?_; intro A6 N6 d6 w6 ho6 hN6 hb6 hg6)
            obtain ⟨V, hV, ho7⟩ : ∃ V : Int, V = ((be8 (8 * N3) 3).toNat : Int) ∧ Ow w6 (g0 + 1) 5 A6 N6 d6 (bv (mid l z ++ ((List.range 8).map (be8 (8 * N3))).take k) ++ [.int .u8 V]) := ⟨_, (by show _ = ((UInt8.ofNat (8 * N3 / 2 ^ 32)).toNat : Int); rw [UInt8.toNat_ofNat']; omega), ho6⟩
            have hb7 : Below (g0 + 1) W w6 := HQ.out.2.trans (((Below.refl _ _).alloc hws2 _).trans hb6)
            have hN6q : N6 = N + (k + 1) := by have h1 := ho7.len; have h2 := HQ.out.1.len; rw [List.length_append, h2] at h1; have h3 := HNq.out; simp at h1; omega
            rw [hV, show [Value.int IntKind.u8 ((be8 (8 * N3) 3).toNat : Int)] = bv [be8 (8 * N3) k] by rw [hk3]; rfl, ← bv_app, List.append_assoc, ← HBE.out] at ho7
            have H7 := Lib.hid (And.intro ho7 hb7)
            have hy2 : (4 : Int) - 1 = 7 - ((k + 1 : Nat) : Int) := by omega
            have HY2 := Lib.hid hy2
            clear hV ho7 hb7 hb6 hg6 ho6 hy2
            go_wp2_with fail
            exact ⟨⟨k + 1, N6, A6, d6, _, rfl, rfl, by omega, HY2, hN6q, H7⟩, by simp [intOf]⟩
          · have hy : y = 3 := by have := HY.out; omega
            subst hy
            go_upto_region 8 with (at_builtin; refine wp_app u8ty rfl (.tmp 34) (.tmp 41) rfl rfl rfl (HQ.out.1.alloc _) (Rd.one _ _ _) (one1 rfl) (by omega) (by omega) (by simp; omega) ?_; intro A6 N6 d6 w6 ho6 hN6 hb6 hg6)
            obtain ⟨V, hV, ho7⟩ : ∃ V : Int, V = ((be8 (8 * N3) 4).toNat : Int) ∧ Ow w6 (g0 + 1) 5 A6 N6 d6 (bv (mid l z ++ ((List.range 8).map (be8 (8 * N3))).take k) ++ [.int .u8 V]) := ⟨_, (by show _ = ((UInt8.ofNat (8 * N3 / 2 ^ 24)).toNat : Int); rw [UInt8.toNat_ofNat']; omega), ho6⟩
            have hb7 : Below (g0 + 1) W w6 := HQ.out.2.trans (((Below.refl _ _).alloc hws2 _).trans hb6)
            have hN6q : N6 = N + (k + 1) := by have h1 := ho7.len; have h2 := HQ.out.1.len; rw [List.length_append, h2] at h1; have h3 := HNq.out; simp at h1; omega
            rw [hV, show [Value.int IntKind.u8 ((be8 (8 * N3) 4).toNat : Int)] = bv [be8 (8 * N3) k] by rw [hk4]; rfl, ← bv_app, List.append_assoc, ← HBE.out] at ho7
            have H7 := Lib.hid (And.intro ho7 hb7)
            have hy2 : (3 : Int) - 1 = 7 - ((k + 1 : Nat) : Int) := by omega
            have HY2 := Lib.hid hy2
            clear hV ho7 hb7 hb6 hg6 ho6 hy2
            go_wp2_with fail
            exact ⟨⟨k + 1, N6, A6, d6, _, rfl, rfl, by omega, HY2, hN6q, H7⟩, by simp [intOf]⟩
          · have hy : y = 2 := by have := HY.out; omega
            subst hy
            go_upto_region 8 with (at_builtin; refine wp_app u8ty rfl (.tmp 34) (.tmp 41) rfl rfl rfl (HQ.out.1.alloc _) (Rd.one _ _ _) (one1 rfl) (by omega) (by omega) (by simp; omega) ?_; intro A6 N6 d6 w6 ho6 hN6 hb6 hg6)
            obtain ⟨V, hV, ho7⟩ : ∃ V : Int, V = ((be8 (8 * N3) 5).toNat : Int) ∧ Ow w6 (g0 + 1) 5 A6 N6 d6 (bv (mid l z ++ ((List.range 8).map (be8 (8 * N3))).take k) ++ [.int .u8 V]) := ⟨_, (by show _ = ((UInt8.ofNat (8 * N3 / 2 ^ 16)).toNat : Int); rw [UInt8.toNat_ofNat']; omega), ho6⟩
            have hb7 : Below (g0 + 1) W w6 := HQ.out.2.trans (((Below.refl _ _).alloc hws2 _).trans hb6)
            have hN6q : N6 = N + (k + 1) := by have h1 := ho7.len; have h2 := HQ.out.1.len; rw [List.length_append, h2] at h1; have h3 := HNq.out; simp at h1; omega
            rw [hV, show [Value.int IntKind.u8 ((be8 (8 * N3) 5).toNat : Int)] = bv [be8 (8 * N3) k] by rw [hk5]; rfl, ← bv_app, List.append_assoc, ← HBE.out] at ho7
            have H7 := Lib.hid (And.intro ho7 hb7)
            have hy2 : (2 : Int) - 1 = 7 - ((k + 1 : Nat) : Int) := by omega
            have HY2 := Lib.hid hy2
            clear hV ho7 hb7 hb6 hg6 ho6 hy2
            go_wp2_with fail
            exact ⟨⟨k + 1, N6, A6, d6, _, rfl, rfl, by omega, HY2, hN6q, H7⟩, by simp [intOf]⟩
          · have hy : y = 1 := by have := HY.out; omega
            subst hy
            go_upto_region 8 with (at_builtin; refine wp_app u8ty rfl (.tmp 34) (.tmp 41) rfl rfl rfl (HQ.out.1.alloc _) (Rd.one _ _ _) (one1 rfl) (by omega) (by omega) (by simp; omega) ?_; intro A6 N6 d6 w6 ho6 hN6 hb6 hg6)
            obtain ⟨V, hV, ho7⟩ : ∃ V : Int, V = ((be8 (8 * N3) 6).toNat : Int) ∧ Ow w6 (g0 + 1) 5 A6 N6 d6 (bv (mid l z ++ ((List.range 8).map (be8 (8 * N3))).take k) ++ [.int .u8 V]) := ⟨_, (by show _ = ((UInt8.ofNat (8 * N3 / 2 ^ 8)).toNat : Int); rw [UInt8.toNat_ofNat']; omega), ho6⟩
            have hb7 : Below (g0 + 1) W w6 := HQ.out.2.trans (((Below.refl _ _).alloc hws2 _).trans hb6)
            have hN6q : N6 = N + (k + 1) := by have h1 := ho7.len; have h2 := HQ.out.1.len; rw [List.length_append, h2] at h1; have h3 := HNq.out; simp at h1; omega
            rw [hV, show [Value.int IntKind.u8 ((be8 (8 * N3) 6).toNat : Int)] = bv [be8 (8 * N3) k] by rw [hk6]; rfl, ← bv_app, List.append_assoc, ← HBE.out] at ho7
            have H7 := Lib.hid (And.intro ho7 hb7)
            have hy2 : (1 : Int) - 1 = 7 - ((k + 1 : Nat) : Int) := by omega
            have HY2 := Lib.hid hy2
            clear hV ho7 hb7 hb6 hg6 ho6 hy2
            go_wp2_with fail
            exact ⟨⟨k + 1, N6, A6, d6, _, rfl, rfl, by omega, HY2, hN6q, H7⟩, by simp [intOf]⟩
          · have hy : y = 0 := by have := HY.out; omega
            subst hy
            go_upto_region 8 with (at_builtin; refine wp_app u8ty rfl (.tmp 34) (.tmp 41) rfl rfl rfl (HQ.out.1.alloc _) (Rd.one _ _ _) (one1 rfl) (by omega) (by omega) (by simp; omega) ?_; intro A6 N6 d6 w6 ho6 hN6 hb6 hg6)
            obtain ⟨V, hV, ho7⟩ : ∃ V : Int, V = ((be8 (8 * N3) 7).toNat : Int) ∧ Ow w6 (g0 + 1) 5 A6 N6 d6 (bv (mid l z ++ ((List.range 8).map (be8 (8 * N3))).take k) ++ [.int .u8 V]) := ⟨_, (by show _ = ((UInt8.ofNat (8 * N3 / 2 ^ 0)).toNat : Int); rw [UInt8.toNat_ofNat']; omega), ho6⟩
            have hb7 : Below (g0 + 1) W w6 := HQ.out.2.trans (((Below.refl _ _).alloc hws2 _).trans hb6)
            have hN6q : N6 = N + (k + 1) := by have h1 := ho7.len; have h2 := HQ.out.1.len; rw [List.length_append, h2] at h1; have h3 := HNq.out; simp at h1; omega
            rw [hV, show [Value.int IntKind.u8 ((be8 (8 * N3) 7).toNat : Int)] = bv [be8 (8 * N3) k] by rw [hk7]; rfl, ← bv_app, List.append_assoc, ← HBE.out] at ho7
            have H7 := Lib.hid (And.intro ho7 hb7)
            have hy2 : (0 : Int) - 1 = 7 - ((k + 1 : Nat) : Int) := by omega
            have HY2 := Lib.hid hy2
            clear hV ho7 hb7 hb6 hg6 ho6 hy2
            go_wp2_with fail
            exact ⟨⟨k + 1, N6, A6, d6, _, rfl, rfl, by omega, HY2, hN6q, H7⟩, by simp [intOf]⟩
        · obtain rfl : k = 8 := by omega
          have hy : y = -1 := by have := HY.out; omega
          subst hy
          rw [List.take_of_length_le (by simp)] at HQ
          obtain ⟨wq, hwq⟩ : ∃ x, x = wr := ⟨_, rfl⟩
          subst hwq
          have hlen8 : 8 * l.length < 4294967296 := by have := HL.out; omega
          have hpm := padded_mid l hlen8
          rw [HL.out] at hpm
          have hZz := HZ.out
          rw [hZz] at hpm
          have HPM := Lib.hid hpm
          have hpad : (mid l z ++ (List.range 8).map (be8 (8 * N3))) = padded l := hpm.symm
          rw [hpad] at HQ
          have hXb : Below wq.heap.size wq (wq.alloc (.cells #[] 96)) := (Below.refl _ _).alloc (Nat.le_refl _) _
          have hlit := Ow.lit0 wq 96 (Nat.le_refl wq.heap.size)
          have hgw : g0 ≤ W.heap.size := Nat.le_of_lt hWlt
          have hbW : Below g0 W wq := HQ.out.2.mono (Nat.le_succ _)
          have hsr := H.out.1.below (hbW.trans (hXb.mono (Nat.le_trans hgw HQ.out.2.size))) hB2
          have HXB := Lib.hid hXb
          clear hpm hpad hXb hZz
          go_upto_region 11 with (at_builtin; refine wp_app u32tyB rfl (.tmp 43) (.tmp 44) rfl rfl rfl hlit hsr (wvs_one _) (by omega) (by omega) (by simp) ?_; intro A8 N8 d8 w8 ho8 hN8 hb8 hg8)
          have hN88 : N8 = 8 := by have := ho8.len; rw [List.nil_append, wvs_len] at this; exact this.symm
          subst hN88
          rw [List.nil_append] at ho8
          have H8 := Lib.hid (And.intro ho8 (HXB.out.trans hb8))
          clear ho8 hb8 hg8 hlit hsr
          have hNq8 : Nq = N + 8 := HNq.out
          have hN64 : ∃ b : Nat, Nq = 64 * b := ⟨Nq / 64, by have := HN.out; have := HZ.out; omega⟩
          obtain ⟨b, hb64⟩ := hN64
          have HPL : Hid ((padded l).length = Nq) := Lib.hid (by have := HQ.out.1.len; rw [bv_len] at this; exact this)
          clear hNq8
          have HB64 := Lib.hid hb64
          clear hb64
          go_wp2_with fail
          obtain ⟨gq, rfl, hgq1, hgq2⟩ := HQ.out.1.at0 (by have := HNq.out; omega)
          have hcapq := HQ.out.1.cap.1
          go_loopw [9, 10] (fun v i wr => ∃ (k o : Nat) (A : Option Addr) (d : Nat), v = .slice A 8 d ∧ 8 ≤ d ∧ i = .int .i64 (o : Int) ∧ k ≤ b ∧ Hid (o = 64 * k) ∧ Hid (Ow wr wq.heap.size 96 A 8 d (wvs (stL (stN (padded l) k))) ∧ Below wq.heap.size wq wr)) (fun _ i _ => 64 * b - (intOf i).toNat)
          case atStart => exact ⟨0, 0, A8, d8, rfl, H8.out.1.cap.1, rfl, Nat.zero_le _, Lib.hid rfl, H8⟩
          case round =>
            obtain ⟨k, o, Av, dv, rfl, hdv8, rfl, hkb, HO, HV⟩ := hrel
            by_cases hkl : k < b
            · have hlt : (o : Int) < (Nq : Int) := by have := HB64.out; have := HO.out; omega
              have hs1 : (o : Int) + 64 ≤ (dq : Int) := by have := HB64.out; have := HO.out; omega
              have hs2 : ¬ dq = o := by omega
              have hbl : (blk64 (padded l) k).length = 64 := by unfold blk64; rw [List.length_take, List.length_drop, HPL.out]; have := HB64.out; omega
              have hcut : Rd wr wr.heap.size (some ⟨gq, o, none⟩) 64 (bv (blk64 (padded l) k)) := by
                have h1 : Rd wr wq.heap.size (some ⟨gq, 0, none⟩) Nq (bv (padded l)) := HQ.out.1.rd.below HV.out.2 (Nat.le_refl _)
                have h2 := (h1.cut (l := o) (m := 64) (A' := some ⟨gq, o, none⟩) (by have := HB64.out; have := HO.out; omega) (fun _ => by simp [Addr.add])).more HV.out.2.size
                rw [← bv_drop, ← bv_take] at h2
                unfold blk64
                rw [← HO.out]
                exact h2
              have hkd : Rd wr wr.heap.size A1 64 (wvs cubes) := (H.out.2.1.below (hbW.trans (HV.out.2.mono (Nat.le_trans hgw HQ.out.2.size))) hB2).more (by have := HV.out.2.size; have := HQ.out.2.size; omega)
              have hblk := refBlock_any (stN (padded l) k) Av A1 (some ⟨gq, o, none⟩) dv c1 (dq - o) wr.heap.size (blk64 (padded l) k) hbl wr HV.out.1.rd hkd hcut (Nat.le_refl _) hdv8
              rw [show mixed (stN (padded l) k) (wordsN (blk64 (padded l) k) 64) = stN (padded l) (k + 1) from rfl] at hblk
              have HBLK := Lib.hid hblk
              clear hblk hcut hkd hbl
              go_wp2_with (go_at_call 83; refine (HBLK.out).mono ?_; rintro e w9 ⟨A9, d9, rfl, ho9, hb9⟩)
              have hov := HO.out
              exact ⟨⟨k + 1, o + 64, A9, d9, rfl, ho9.cap.1, by go_num, by omega, Lib.hid (by omega), Lib.hid ⟨ho9.base HV.out.2.size, HV.out.2.trans (hb9.mono HV.out.2.size)⟩⟩, by simp [intOf]; have := HB64.out; omega⟩
            · obtain rfl : k = b := by omega
              have hlt : ¬ (o : Int) < (Nq : Int) := by have := HB64.out; have := HO.out; omega
              obtain ⟨wz, hwz⟩ : ∃ x, x = wr := ⟨_, rfl⟩
              subst hwz
              have hbz := build_z32
              have hone : ∀ v ∈ z32, v.oneCell' = true := bv_one _
              have hone2 := all_oneCell_toArray hone
              have hsz3 : z32.toArray.size = 32 := by rw [List.size_toArray, hz32]
              have hthz : ∀ y : World, (y.alloc (.cells z32.toArray 23)).there y.heap.size 0 32 := fun y => by have := there_new y z32 23; rwa [hz32] at this
              have hXs := World.rangeAt_setCells_same (wz.alloc (.cells z32.toArray 23)) wz.heap.size 0 z32 (by rw [hz32]; exact hthz wz)
              have hXt := there_set (hthz wz) wz.heap.size 0 z32 (by rw [hz32]; exact hthz wz)
              have hXb : Below wz.heap.size wz ((wz.alloc (.cells z32.toArray 23)).setCells wz.heap.size 0 z32) := (Keep1.sets wz.heap.size z32 0 _).below ((Below.refl _ _).alloc (Nat.le_refl _) _) (by simp) (Nat.le_refl _)
              have hXz : wz.heap.size < ((wz.alloc (.cells z32.toArray 23)).setCells wz.heap.size 0 z32).heap.size := by rw [setCells_size]; simp
              have hinfZ : (Tryd.prog.info? 23).map (·.size) = some z32.toArray.size := by rw [hsz3]; kernel_rfl
              have hthq : ∀ y : World, (y.alloc (.cells z32.toArray 23)).there y.heap.size 0 Z3.size := fun y => by rw [← hZ3, hsz3]; exact hthz y
              rw [hZ3] at hone2 hsz3 hXs hXt hXb hXz hinfZ
              simp only [hZ3] at hbz
              go_upto_region 16 with (first
                | (refine wp_buildD rfl _ _ rfl (.agg Z3) (by simp only [List.map_toArray, List.map_nil]; exact hbz _) ?_)
                | (refine wpList_store_mid rfl 23 (.tmp 11) (.tmp 60) rfl wz.heap.size 0 Z3 rfl rfl (hthq wz) hinfZ hone2 ?_)
                | fail)
              show Code.wp _ _ _ _ ((wz.alloc (.cells z32.toArray 23)).setCells wz.heap.size 0 Z3.toList)
              rw [show Z3.toList = z32 by rw [← hZ3]]
              rw [hZ3]
              obtain ⟨X, hX⟩ : ∃ x, (wz.alloc (.cells Z3 23)).setCells wz.heap.size 0 z32 = x := ⟨_, rfl⟩
              rw [hX] at hXs hXt hXb hXz ⊢
              obtain ⟨go, hgo⟩ : ∃ x, wz.heap.size = x := ⟨_, rfl⟩
              rw [hgo] at hXs hXt hXb hXz ⊢
              obtain ⟨ws, hws8⟩ : ∃ x, stL (stN (padded l) k) = x := ⟨_, rfl⟩
              have hwsl : ws.length = 8 := by rw [← hws8]; rfl
              have hout0 : outN ws 0 = List.replicate 32 0 := by simp [outN]
              have hovX := HV.out.1.rd.below (by rw [← hgo] at hXb; exact hXb) (Nat.le_refl _)
              rw [hgo] at hovX
              rw [hws8] at hovX
              have HX := Lib.hid (And.intro (show X.rangeAt go 0 (bv (outN ws 0)) by rw [hout0]; exact hXs) (And.intro hXt (And.intro hXb hovX)))
              have HWS := Lib.hid hws8
              clear hXs hXt hXb hovX hX hthq hthz hbz hone hone2 hws8 hout0
              go_wp2_with fail
              go_loopw [61] (fun i wr => ∃ I : Nat, i = .int .i64 (I : Int) ∧ I ≤ 8 ∧ Hid (wr.rangeAt go 0 (bv (outN ws I)) ∧ wr.there go 0 32 ∧ Keep1 X wr go)) (fun i _ => 8 - (intOf i).toNat)
              case atStart => exact ⟨0, rfl, by omega, Lib.hid ⟨HX.out.1, HX.out.2.1, Keep1.refl _ _⟩⟩
              case round =>
                obtain ⟨I, rfl, hI8, HI⟩ := hrel
                by_cases hI : I < 8
                · have k8 : (I : Int) < 8 := by omega
                  obtain ⟨wi, hwi⟩ : ∃ x, x = wr := ⟨_, rfl⟩
                  subst hwi
                  go_wp2_with fail
                  go_loopw [64] (fun j wr => ∃ J : Nat, j = .int .i64 (J : Int) ∧ J ≤ 4 ∧ Hid (wr.rangeAt go 0 (bv (inN ws I J)) ∧ wr.there go 0 32 ∧ Keep1 X wr go)) (fun j _ => 4 - (intOf j).toNat)
                  case atStart => exact ⟨0, rfl, by omega, Lib.hid ⟨by rw [inN_zero]; exact HI.out.1, HI.out.2.1, HI.out.2.2⟩⟩
                  case round =>
                    obtain ⟨J, rfl, hJ4, HJ⟩ := hrel
                    by_cases hJ : J < 4
                    · obtain ⟨bs0, os0, hAv, hbs, hcs⟩ := HX.out.2.2.2.at_ hI
                      subst hAv
                      have hcw := (HJ.out.2.2.cell (a := ⟨bs0, os0 + I, none⟩) (Nat.lt_trans hbs hXz) (Nat.ne_of_lt hbs)).trans hcs
                      rw [wvs_at ws I (by omega)] at hcw
                      obtain ⟨x, hx⟩ : ∃ x, ws.getD I 0 = x := ⟨_, rfl⟩
                      rw [hx] at hcw
                      unfold wv at hcw
                      have hstp := inN_step ws I J hwsl hI hJ
                      rw [hx] at hstp
                      obtain ⟨Nx, hNx⟩ : ∃ z, x.toNat = z := ⟨_, rfl⟩
                      rw [hNx] at hcw
                      have hNxl : Nx < 4294967296 := by rw [← hNx]; exact x.toNat_lt
                      have hin : (inN ws I J).length = 32 := by
                        unfold inN
                        rw [List.length_append, flat_len, List.length_append, List.length_take, List.length_take, bytes4_len, List.length_replicate]
                        omega
                      obtain ⟨q, hq⟩ : ∃ q, 4 * I + J = q := ⟨_, rfl⟩
                      rw [hq] at hstp
                      have hq32 : q < 32 := by omega
                      obtain ⟨hc1, hc2⟩ := HJ.out.2.1 q hq32
                      rw [Nat.zero_add] at hc1 hc2
                      obtain ⟨u0, hu0⟩ := Option.isSome_iff_exists.1 hc1
                      have HSTP := Lib.hid (And.intro hstp (And.intro hx hNx))
                      have hqi : (q : Int) < 32 := by omega
                      have hqe : 4 * (I : Int) + (J : Int) = (q : Int) := by omega
                      clear hstp hx hNx hin hcs hc1
                      have hrI := HJ.out.1
                      have htI := HJ.out.2.1
                      have hkI := HJ.out.2.2
                      rcases (show J = 0 ∨ J = 1 ∨ J = 2 ∨ J = 3 by omega) with hj0 | hj1 | hj2 | hj3
                      · subst hj0
                        have hqe2 : 4 * (I : Int) = (q : Int) := by omega
                        have HQE := Lib.hid hq
                        have hv : (Nx : Int) / 16777216 = (((bytes4 x).getD 0 0).toNat : Int) := by
                          show _ = ((UInt8.ofNat (x.toNat / 16777216)).toNat : Int)
                          rw [HSTP.out.2.2, UInt8.toNat_ofNat']; omega
                        have HV8 := Lib.hid hv
                        clear hq hqe hv
                        go_upto_region 23 with fail
                        rw [HV8.out]
                        have hr9 := range_setD hrI q (.int .u8 (((bytes4 x).getD 0 0).toNat : Int))
                        rw [← bv_set, HSTP.out.1] at hr9
                        have ht9 := there_setD htI go q (.int .u8 (((bytes4 x).getD 0 0).toNat : Int))
                        have hk9 := hkI.trans (Keep1.set wr go q (.int .u8 (((bytes4 x).getD 0 0).toNat : Int)))
                        have H9 := Lib.hid (And.intro hr9 (And.intro ht9 hk9))
                        clear hr9 ht9 hk9 hrI htI hkI
                        obtain ⟨wn, hwn⟩ : ∃ z, wr.setCell ⟨go, q, none⟩ (.int .u8 (((bytes4 x).getD 0 0).toNat : Int)) = z := ⟨_, rfl⟩
                        rw [hwn] at H9 ⊢
                        clear hwn
                        go_wp2_with fail
                        exact ⟨⟨1, rfl, by omega, H9⟩, by simp [intOf]⟩
                      · subst hj1
                        have hqe2 : 4 * (I : Int) + 1 = (q : Int) := by omega
                        have HQE := Lib.hid hq
                        have hv : (Nx : Int) / 65536 % 256 = (((bytes4 x).getD 1 0).toNat : Int) := by
                          show _ = ((UInt8.ofNat (x.toNat / 65536)).toNat : Int)
                          rw [HSTP.out.2.2, UInt8.toNat_ofNat']; omega
                        have HV8 := Lib.hid hv
                        clear hq hqe hv
                        go_upto_region 23 with fail
                        rw [HV8.out]
                        have hr9 := range_setD hrI q (.int .u8 (((bytes4 x).getD 1 0).toNat : Int))
                        rw [← bv_set, HSTP.out.1] at hr9
                        have ht9 := there_setD htI go q (.int .u8 (((bytes4 x).getD 1 0).toNat : Int))
                        have hk9 := hkI.trans (Keep1.set wr go q (.int .u8 (((bytes4 x).getD 1 0).toNat : Int)))
                        have H9 := Lib.hid (And.intro hr9 (And.intro ht9 hk9))
                        clear hr9 ht9 hk9 hrI htI hkI
                        obtain ⟨wn, hwn⟩ : ∃ z, wr.setCell ⟨go, q, none⟩ (.int .u8 (((bytes4 x).getD 1 0).toNat : Int)) = z := ⟨_, rfl⟩
                        rw [hwn] at H9 ⊢
                        clear hwn
                        go_wp2_with fail
                        exact ⟨⟨2, rfl, by omega, H9⟩, by simp [intOf]⟩
                      · subst hj2
                        have hqe2 : 4 * (I : Int) + 2 = (q : Int) := by omega
                        have HQE := Lib.hid hq
                        have hv : (Nx : Int) / 256 % 256 = (((bytes4 x).getD 2 0).toNat : Int) := by
                          show _ = ((UInt8.ofNat (x.toNat / 256)).toNat : Int)
                          rw [HSTP.out.2.2, UInt8.toNat_ofNat']; omega
                        have HV8 := Lib.hid hv
                        clear hq hqe hv
                        go_upto_region 23 with fail
                        rw [HV8.out]
                        have hr9 := range_setD hrI q (.int .u8 (((bytes4 x).getD 2 0).toNat : Int))
                        rw [← bv_set, HSTP.out.1] at hr9
                        have ht9 := there_setD htI go q (.int .u8 (((bytes4 x).getD 2 0).toNat : Int))
                        have hk9 := hkI.trans (Keep1.set wr go q (.int .u8 (((bytes4 x).getD 2 0).toNat : Int)))
                        have H9 := Lib.hid (And.intro hr9 (And.intro ht9 hk9))
                        clear hr9 ht9 hk9 hrI htI hkI
                        obtain ⟨wn, hwn⟩ : ∃ z, wr.setCell ⟨go, q, none⟩ (.int .u8 (((bytes4 x).getD 2 0).toNat : Int)) = z := ⟨_, rfl⟩
                        rw [hwn] at H9 ⊢
                        clear hwn
                        go_wp2_with fail
                        exact ⟨⟨3, rfl, by omega, H9⟩, by simp [intOf]⟩
                      · subst hj3
                        have hqe2 : 4 * (I : Int) + 3 = (q : Int) := by omega
                        have HQE := Lib.hid hq
                        have hv : (Nx : Int) % 256 = (((bytes4 x).getD 3 0).toNat : Int) := by
                          show _ = ((UInt8.ofNat (x.toNat)).toNat : Int)
                          rw [HSTP.out.2.2, UInt8.toNat_ofNat']; omega
                        have HV8 := Lib.hid hv
                        clear hq hqe hv
                        go_upto_region 23 with fail
                        rw [HV8.out]
                        have hr9 := range_setD hrI q (.int .u8 (((bytes4 x).getD 3 0).toNat : Int))
                        rw [← bv_set, HSTP.out.1] at hr9
                        have ht9 := there_setD htI go q (.int .u8 (((bytes4 x).getD 3 0).toNat : Int))
                        have hk9 := hkI.trans (Keep1.set wr go q (.int .u8 (((bytes4 x).getD 3 0).toNat : Int)))
                        have H9 := Lib.hid (And.intro hr9 (And.intro ht9 hk9))
                        clear hr9 ht9 hk9 hrI htI hkI
                        obtain ⟨wn, hwn⟩ : ∃ z, wr.setCell ⟨go, q, none⟩ (.int .u8 (((bytes4 x).getD 3 0).toNat : Int)) = z := ⟨_, rfl⟩
                        rw [hwn] at H9 ⊢
                        clear hwn
                        go_wp2_with fail
                        exact ⟨⟨4, rfl, by omega, H9⟩, by simp [intOf]⟩
                    · obtain rfl : J = 4 := by omega
                      have k4n : ¬ ((4 : Nat) : Int) < 4 := by omega
                      have H10 : Hid (wr.rangeAt go 0 (bv (outN ws (I + 1))) ∧ wr.there go 0 32 ∧ Keep1 X wr go) := Lib.hid ⟨by rw [← inN_four ws I hwsl hI]; exact HJ.out.1, HJ.out.2⟩
                      go_wp2_with fail
                      exact ⟨⟨I + 1, by go_num, by omega, H10⟩, by simp [intOf]; omega⟩
                · obtain rfl : I = 8 := by omega
                  have k8n : ¬ ((8 : Nat) : Int) < 8 := by omega
                  have hdig : ws.flatMap bytes4 = digest l := by
                    rw [← HWS.out]
                    unfold digest outS
                    rw [HPL.out, show Nq / 64 = k by have := HB64.out; omega]
                  have hr := HI.out.1
                  rw [outN_full ws hwsl, hdig] at hr
                  have hdl : (bv (digest l)).length = 32 := by rw [bv_len, ← hdig, flat_len, hwsl]
                  have hdo := bv_one (digest l)
                  have hgz : g0 < go := by have := HV.out.2.size; have := HQ.out.2.size; omega
                  have hb0X : Below g0 W X := (hbW.trans (HV.out.2.mono (Nat.le_trans hgw HQ.out.2.size))).trans (HX.out.2.2.1.mono (Nat.le_of_lt hgz))
                  have hbr : Below g0 w wr := HI.out.2.2.below (H.out.2.2.2.2.trans hb0X) (by have := hXz; omega) (Nat.le_of_lt hgz)
                  have ht0 : wr.there g0 0 32 := there_keep (there_below (there_below (there_below H.out.2.2.2.1 HQ.out.2 (Nat.lt_succ_self g0) hWlt) HV.out.2 (by have := HQ.out.2.size; omega) (by have := HQ.out.2.size; omega)) HX.out.2.2.1 hgz (by have := HV.out.2.size; have := HQ.out.2.size; omega)) HI.out.2.2 (Nat.lt_trans hgz hXz) (Nat.ne_of_lt hgz)
                  obtain ⟨V, hV⟩ : ∃ V, bv (digest l) = V := ⟨_, rfl⟩
                  rw [hV] at hr hdl hdo
                  have HVV := Lib.hid hV
                  have HBR := Lib.hid (And.intro hbr (Nat.le_refl g0))
                  clear hV hbr hdig hb0X
                  go_wp2_with (first
                    | (refine wpList_load_mid rfl 23 (.tmp 11) rfl go 0 rfl V _ hr Tryd.underlying23 rfl (by rw [hdl]; kernel_rfl) ?_)
                    | (refine wpList_store_mid rfl 23 (.tmp 6) (.tmp 84) rfl g0 0 V.toArray rfl rfl (by rw [List.size_toArray, hdl]; exact ht0) (by rw [List.size_toArray, hdl]; kernel_rfl) (all_oneCell_toArray hdo) ?_)
                    | fail)
                  refine bodyPost_ret (v := .agg V.toArray) ?_ rfl ?_
                  · exact results_row rfl _ g0 0 V _ rfl (World.rangeAt_setCells_same wr g0 0 V (by rw [hdl]; exact ht0)) Tryd.underlying23 rfl (by rw [hdl]; kernel_rfl)
                  · refine ⟨by rw [HVV.out], ?_⟩
                    exact (Keep1.sets g0 V 0 wr).below HBR.out.1 (by rw [← HG.out]; have := HBR.out.1.size; rw [HG.out] at this ⊢; exact this) (Nat.le_refl _)
end Go.Proofs.YtbcgnacfhpahkaaDoor.dg
namespace Go.Proofs.YtbcgnacfhpahkaaDoor.dg
open Go.RowKit Mem DM
set_option linter.unusedVariables false
set_option linter.unusedSimpArgs false
theorem wp_buildSliceD {P : Program} {ops : Array Oper} {rest : List Oper} {o : Oper} {a : Act} {w : World} {Q : Exit → Act → World → Prop} (hgd : o.guard = none) (t : TypeId) (len : Nat) (parts : Array (Nat × Operand)) (ho : o.op = .buildSlice t len parts) (vs : Array (Nat × Value)) (hvs : (parts.map fun (i, x) => (i, a.eval x)) = vs) (v : Value) (w' : World)
    (hrun : (Instr.buildSlice t len vs).run P w = .ok v w') (h : wpList P ops Q rest (a.put o.dst v) w') : wpList P ops Q (o :: rest) a w :=
  wpList_plain hgd fun K hK => by
    unfold Oper.wp execOp
    simp only [ho, Sem.run_bind, hvs, Result.andThen_ok, hrun]
    exact hK _ _ h
def idx (l : List UInt32) : List (Nat × Value) := (List.range l.length).map fun i => (i, wv (l.getD i 0))
theorem build_cubes (w : World) : (Instr.buildSlice 97 64 (idx cubes).toArray).run Tryd.prog w = .ok (.slice (some ⟨w.heap.size, 0, none⟩) 64 64) (w.alloc (.cells (wvs cubes).toArray 96)) := by kernel_rfl
theorem build_roots (w : World) : (Instr.buildSlice 97 8 (idx roots).toArray).run Tryd.prog w = .ok (.slice (some ⟨w.heap.size, 0, none⟩) 8 8) (w.alloc (.cells (wvs roots).toArray 96)) := by kernel_rfl
set_option maxRecDepth 100000 in
set_option maxHeartbeats 8000000 in
theorem refQuick_any (A2 : Option Addr) (n c2 B : Nat) (l : List UInt8) (w : World) (hb : Rd w B A2 n (bv l)) (hB : B ≤ w.heap.size) (hn : n ≤ 1048576) :
    Calls Tryd.prog 37 #[.slice A2 n c2] w fun e w' => e = .returned (.agg (bv (digest l)).toArray) ∧ Below w.heap.size w w' := by
  have hz32 : z32.length = 32 := by simp [z32, bv_len]
  have hth := there_new w z32 23
  rw [hz32] at hth
  have hW0 : Below w.heap.size w (w.alloc (.cells z32.toArray 23)) := (Below.refl _ _).alloc (Nat.le_refl _) _
  have hWs : (w.alloc (.cells z32.toArray 23)).heap.size = w.heap.size + 1 := by simp
  obtain ⟨Z3, hZ3⟩ : ∃ z, z32.toArray = z := ⟨_, rfl⟩
  rw [hZ3] at hth hW0 hWs
  obtain ⟨W, hW⟩ : ∃ z, w.alloc (.cells Z3 23) = z := ⟨_, rfl⟩
  rw [hW] at hth hW0 hWs
  obtain ⟨g0, hg0⟩ : ∃ z, w.heap.size = z := ⟨_, rfl⟩
  rw [hg0] at hth hW0 hWs
  have hWlt : g0 < W.heap.size := by rw [hWs]; exact Nat.lt_succ_self _
  have hbc := build_cubes
  have hbr := build_roots
  have hrc := fun y => rd_alloc y 96 (wvs cubes) (0, 0)
  have hrr := fun y => rd_alloc y 96 (wvs roots) (0, 0)
  have hcl : (wvs cubes).length = 64 := by rw [wvs_len]; rfl
  have hrl : (wvs roots).length = 8 := by rw [wvs_len]; rfl
  simp only [hcl] at hrc
  simp only [hrl] at hrr
  obtain ⟨CV, hCV⟩ : ∃ z, wvs cubes = z := ⟨_, rfl⟩
  obtain ⟨RV, hRV⟩ : ∃ z, wvs roots = z := ⟨_, rfl⟩
  simp only [hCV] at hbc hrc
  simp only [hRV] at hbr hrr
  obtain ⟨CA, hCA⟩ : ∃ z, CV.toArray = z := ⟨_, rfl⟩
  obtain ⟨RA, hRA⟩ : ∃ z, RV.toArray = z := ⟨_, rfl⟩
  simp only [hCA] at hbc hrc
  simp only [hRA] at hbr hrr
  have hsum : ∀ y, Below W.heap.size W y → Calls Tryd.prog 60 #[.slice (some ⟨y.heap.size + 1, 0, none⟩) 8 8, .slice (some ⟨y.heap.size, 0, none⟩) 64 64, .slice A2 n c2] ((y.alloc (.cells CA 96)).alloc (.cells RA 96)) fun e w' => e = .returned (.agg (bv (digest l)).toArray) ∧ Below ((y.alloc (.cells CA 96)).alloc (.cells RA 96)).heap.size ((y.alloc (.cells CA 96)).alloc (.cells RA 96)) w' := fun y hy => by
    have b1 : Below y.heap.size y (y.alloc (.cells CA 96)) := (Below.refl _ _).alloc (Nat.le_refl _) _
    have b2 : Below (y.heap.size + 1) (y.alloc (.cells CA 96)) ((y.alloc (.cells CA 96)).alloc (.cells RA 96)) := (Below.refl _ _).alloc (by simp) _
    have hs2 : ((y.alloc (.cells CA 96)).alloc (.cells RA 96)).heap.size = y.heap.size + 1 + 1 := by simp
    have hs1 : (y.alloc (.cells CA 96)).heap.size = y.heap.size + 1 := by simp
    have r1 : Rd (y.alloc (.cells CA 96)) (y.heap.size + 1) (some ⟨y.heap.size, 0, none⟩) 64 CV := hrc y
    have r2 : Rd ((y.alloc (.cells CA 96)).alloc (.cells RA 96)) (y.heap.size + 1 + 1) (some ⟨y.heap.size + 1, 0, none⟩) 8 RV := by
      have := hrr (y.alloc (.cells CA 96))
      rw [hs1] at this
      exact this
    have hbb := (hb.below (hW0.trans (hy.mono (Nat.le_of_lt hWlt)) : Below g0 w y) (by rw [← hg0]; exact hB))
    have hbb2 := (hbb.more (B' := y.heap.size) (Nat.le_trans hB (by rw [hg0]; exact Nat.le_trans (Nat.le_of_lt hWlt) hy.size))).below (b1.trans (b2.mono (Nat.le_succ _))) (Nat.le_refl _)
    have := refSum_any (some ⟨y.heap.size + 1, 0, none⟩) (some ⟨y.heap.size, 0, none⟩) A2 n 8 64 c2 (y.heap.size + 1 + 1) l _ (by rw [hRV]; exact r2) (by rw [hCV]; exact (r1.below b2 (Nat.le_refl _)).more (Nat.le_succ _)) (hbb2.more (by omega)) (by rw [hs2]; exact Nat.le_refl _) hn (Nat.le_refl _)
    exact this
  have HSUM := Lib.hid hsum
  have H := Lib.hid (And.intro hth (And.intro hW0 hg0))
  have hdl : (bv (digest l)).length = 32 := by rw [bv_len]; exact flat_len _
  have hdo := bv_one (digest l)
  obtain ⟨V, hV⟩ : ∃ V, bv (digest l) = V := ⟨_, rfl⟩
  rw [hV] at HSUM hdl hdo
  have HVV := Lib.hid hV
  clear hsum hth hW0 hWs hV hrc hrr hCV hRV hCA hRA hb
  rw [hg0]
  go_enter Tryd.func37, Tryd.ntmps37
  go_upto_region 1 with fail
  show Code.wp _ _ _ _ (w.alloc (.cells z32.toArray 23))
  rw [hZ3, hW]
  go_upto_region 2 with (refine wp_buildSliceD rfl 97 64 _ rfl (idx cubes).toArray (by kernel_rfl) _ _ (hbc _) ?_)
  have hsy := HSUM.out W (Below.refl _ _)
  have HSY := Lib.hid hsy
  have hWle : g0 ≤ W.heap.size := Nat.le_of_lt hWlt
  have hWB : Below W.heap.size W ((W.alloc (.cells CA 96)).alloc (.cells RA 96)) := ((Below.refl _ _).alloc (Nat.le_refl _) _).alloc (by simp) _
  have HWB := Lib.hid hWB
  clear hsy hWB
  go_upto_region 3 with (first
    | (refine wp_buildSliceD rfl 97 8 _ rfl (idx roots).toArray (by kernel_rfl) _ _ (hbr _) ?_)
    | (go_at_call 60; refine (HSY.out).mono ?_; rintro e w5 ⟨rfl, hb5⟩; have ht5 := there_below (there_below H.out.1 HWB.out hWlt hWlt) hb5 (Nat.lt_of_lt_of_le hWlt HWB.out.size) (Nat.lt_of_lt_of_le hWlt HWB.out.size))
    | (refine wpList_store_mid rfl 23 (.tmp 2) (.tmp 8) rfl g0 0 V.toArray rfl rfl (by rw [List.size_toArray, hdl]; exact ht5) (by rw [List.size_toArray, hdl]; kernel_rfl) (all_oneCell_toArray hdo) ?_)
    | fail)
  try go_wp2_with fail
  refine bodyPost_ret (v := .agg V.toArray) ?_ rfl ?_
  · exact results_row rfl _ g0 0 V _ rfl (World.rangeAt_setCells_same w5 g0 0 V (by rw [hdl]; exact ht5)) Tryd.underlying23 rfl (by rw [hdl]; kernel_rfl)
  · refine ⟨by rw [HVV.out], ?_⟩
    have e1 : Below g0 w w5 := (H.out.2.1.trans (HWB.out.mono hWle)).trans (hb5.mono (Nat.le_trans hWle HWB.out.size))
    exact (Keep1.sets g0 V 0 w5).below e1 (by rw [← H.out.2.2]; exact e1.size) (Nat.le_refl _)
end Go.Proofs.YtbcgnacfhpahkaaDoor.dg
