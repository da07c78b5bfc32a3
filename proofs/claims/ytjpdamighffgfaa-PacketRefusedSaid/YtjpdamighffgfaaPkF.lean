/- Contract of packet.Put. -/
import Derived.Test.YtjpdamighffgfaaPkE
namespace Go.Proofs.Ytjpdamighffgfaa.pk
open Go.RowKit Mem SM lib sum PM
set_option linter.unusedVariables false
/-- a packet lies in block g -/
structure PkAt (w : World) (g : Nat) (p : Pk) (A : Option Addr) (n c : Nat) : Prop where
  c0 : w.cell? ⟨g, 0, none⟩ = some (.int .i64 p.src)
  c1 : w.cell? ⟨g, 1, none⟩ = some (.int .i64 p.dst)
  c2 : w.cell? ⟨g, 2, none⟩ = some (.int .i64 p.sport)
  c3 : w.cell? ⟨g, 3, none⟩ = some (.int .i64 p.dport)
  c4 : w.cell? ⟨g, 4, none⟩ = some (.int .u32 p.seq)
  c5 : w.cell? ⟨g, 5, none⟩ = some (.int .u32 p.ack)
  c6 : w.cell? ⟨g, 6, none⟩ = some (.int .i64 p.flags)
  c7 : w.cell? ⟨g, 7, none⟩ = some (.int .i64 p.window)
  c8 : w.cell? ⟨g, 8, none⟩ = some (.int .i64 p.probe)
  c9 : w.cell? ⟨g, 9, none⟩ = some (.int .i64 p.origin)
  c10 : w.cell? ⟨g, 10, none⟩ = some (.slice A n c)
theorem PkAt.new (w : World) (p : Pk) (A : Option Addr) (n c : Nat) : PkAt (w.alloc (pkO p A n c)) w.heap.size p A n c := by
  unfold pkO
  constructor <;> simp
theorem PkAt.kp {W w : World} {g : Nat} {p : Pk} {A : Option Addr} {n c : Nat} (h : PkAt W g p A n c) (hk : Kp g W w) : PkAt w g p A n c :=
  ⟨hk.cell.trans h.c0, hk.cell.trans h.c1, hk.cell.trans h.c2, hk.cell.trans h.c3, hk.cell.trans h.c4, hk.cell.trans h.c5, hk.cell.trans h.c6, hk.cell.trans h.c7, hk.cell.trans h.c8, hk.cell.trans h.c9, hk.cell.trans h.c10⟩
theorem PkAt.below {W w : World} {g B : Nat} {p : Pk} {A : Option Addr} {n c : Nat} (h : PkAt W g p A n c) (hb : Below B W w) (hg : g < B) : PkAt w g p A n c := by
  have k : ∀ j, w.cell? ⟨g, j, none⟩ = W.cell? ⟨g, j, none⟩ := fun j => hb.cell (p := ⟨g, j, none⟩) hg
  exact ⟨(k _).trans h.c0, (k _).trans h.c1, (k _).trans h.c2, (k _).trans h.c3, (k _).trans h.c4, (k _).trans h.c5, (k _).trans h.c6, (k _).trans h.c7, (k _).trans h.c8, (k _).trans h.c9, (k _).trans h.c10⟩
theorem four_one (a b c d : Int) : ∀ u ∈ [Value.int .u8 a, Value.int .u8 b, Value.int .u8 c, Value.int .u8 d], u.oneCell' = true := by
  intro u hu
  simp at hu
  rcases hu with rfl | rfl | rfl | rfl <;> rfl
section
variable {P : Program} {w : World}
/-- copy(dst, src) as a step of a region that draws its order -/
theorem step_copy {ops : Array Oper} {o : Oper} {a : Act} {K : Act → World → Prop} {Q : Exit → Act → World → Prop} {F : Prop} {T E : TypeId} {z : Value} {bytes : Nat} (ty : Ty1 P T E z bytes) (hgd : o.guard = none) (x y : Operand)
    (ho : o.op = .call { callee := .builtin .copy, args := #[x, y], argTypes := #[T, T] }) {base B : Nat} {g n c off : Nat} {xs : List Value} (hown : Ow w base E (some ⟨g, 0, none⟩) n c xs)
    {A2 : Option Addr} {m c2 : Nat} {ys : List Value} (hr : Rd w B A2 m ys) (h1 : ∀ u ∈ ys, u.oneCell' = true) {A : Option Addr} {d dc : Nat} (hx : a.eval x = .slice A d dc) (hy : a.eval y = .slice A2 m c2)
    (hA : 0 < d → A = some ⟨g, off, none⟩) (hoff : off + d ≤ n) (hm : m ≤ d) (hbase : base ≤ w.heap.size)
    (h : ∀ w', Ow w' base E (some ⟨g, 0, none⟩) n c (splice xs off ys) → Below base w w' → w.grownBy w' (some g) → K (a.put o.dst (goInt m)) w') :
    if Region.wanted o (yielded ops a.tmps) = true then Oper.wp P o a w K Q else F := by
  have hw : Region.wanted o (yielded ops a.tmps) = true := by simp [Region.wanted, hgd]
  rw [if_pos hw]
  obtain ⟨w', hrun, h2, h3⟩ := run_copy_ow (P := P) ty o.type hown (c2 := c2) hr h1 A d dc hA hoff hm
  unfold Oper.wp execOp
  simp only [ho, resolve, invoke, builtin, Sem.run_bind, Sem.run_pure, Result.andThen_ok, List.map_toArray, List.map_cons, List.map_nil, hx, hy, hrun]
  exact h w' h2 (below_of_grown h3 hbase fun k hk => by obtain rfl := Option.some.inj hk; exact (hown.blk_lt _ rfl).1) h3
end
theorem put_splice (p : Pk) : splice (bv (blankB p)) 18 (bv (bigB (sumP p) 2)) = bv (putB p) := by
  have hf := frontB_len p
  unfold splice
  rw [bv_len, bigB_len, ← bv_take, ← bv_drop, ← bv_app, ← bv_app]
  apply congrArg
  unfold blankB putB
  have e1 : List.take 18 (frontB p ++ [0, 0] ++ tailB p) = frontB p := by
    rw [List.append_assoc, List.take_append_of_le_length (by omega), List.take_of_length_le (by omega)]
  have e2 : List.drop (18 + 2) (frontB p ++ [0, 0] ++ tailB p) = tailB p := by
    rw [List.drop_append_of_le_length (by simp; omega), List.drop_of_length_le (by simp; omega), List.nil_append]
  rw [e1, e2, List.append_assoc]
def putR (p : Pk) : List UInt8 := if okP p then putB p else []
/-- what Put leaves -/
def PutPost (p : Pk) (w : World) (e : Ending) (w' : World) : Prop := ∃ A N c, e = .returned (.tuple #[.slice A N c, .int .i64 (chk p)]) ∧ Ow w' w.heap.size 5 A N c (bv (putR p)) ∧ Below w.heap.size w w'
theorem chk_ok {p : Pk} (h : okP p) : chk p = 0 := if_pos h
theorem chk_no {p : Pk} (h : ¬ okP p) : chk p = 40 := if_neg h
set_option maxHeartbeats 8000000 in
theorem put_any (p : Pk) (A : Option Addr) (n c B : Nat) (w : World) (h : Rd w B A n (bv p.data)) (hB : B ≤ w.heap.size) (hc : n ≤ c) (hn : n ≤ 9223372036854775807) (hu : u32P p) :
    Calls Try.prog 15 #[pkV p A n c] w (PutPost p w) := by
  unfold pkV
  have hlen : n = p.data.length := by rw [← bv_len, h.len]
  obtain ⟨W, hW⟩ : ∃ W, W = w.alloc (pkO p A n c) := ⟨_, rfl⟩
  obtain ⟨g, hg⟩ : ∃ g, g = w.heap.size := ⟨_, rfl⟩
  have hP : PkAt W g p A n c := by rw [hW, hg]; exact PkAt.new _ _ _ _ _
  have hs : W.heap.size = g + 1 := by rw [hW, hg]; simp
  have hb0 : Below g w W := by rw [hW, hg]; exact (Below.refl _ _).alloc (Nat.le_refl _) _
  have hk0 : Kp g W W := ⟨by rw [hs]; exact Nat.le_refl _, Below.refl _ _⟩
  have hr0 : Rd W (g + 1) A n (bv p.data) := (h.below hb0 (by rw [hg]; exact hB)).more (by rw [hg]; omega)
  have HW := Lib.hid hW
  have Hg := Lib.hid hg
  have Hs := Lib.hid hs
  have HB := Lib.hid hb0
  have Hl := Lib.hid hlen
  have hP' := hP
  have HP := Lib.hid hP'
  obtain ⟨c0, c1, c2, c3, c4, c5, c6, c7, c8, c9, c10⟩ := hP
  clear hs hb0 hW hg hlen hP'
  by_cases hok : okP p
  · have e0 := chk_ok hok
    have he0 : putR p = putB p := if_pos hok
    have He := Lib.hid he0
    have Hok := Lib.hid hok
    clear hok he0
    have hck := check_any p A n c
    rw [e0] at hck
    have HC := Lib.hid hck
    have E0 := Lib.hid e0
    clear hck e0
    go_enter Try.func15, Try.ntmps15
    go_upto_region 1 with fail
    have hW2 : w.alloc (.cells #[.int .i64 p.src, .int .i64 p.dst, .int .i64 p.sport, .int .i64 p.dport, .int .u32 p.seq, .int .u32 p.ack, .int .i64 p.flags, .int .i64 p.window, .int .i64 p.probe, .int .i64 p.origin, .slice A n c] 25) = W := HW.out.symm
    rw [hW2, ← Hg.out]
    clear hW2
    go_wp2_with fail
    refine (HC.out W Hl.out hn).mono ?_
    rintro e w1 ⟨rfl, hb1⟩
    have hk1 : Kp g W w1 := hk0.below (by rw [← Hs.out]; exact hb1)
    clear hb1 c0 c1 c2 c3 c4 c5 c6 c7 c8 c9 c10
    obtain ⟨c0, c1, c2, c3, c4, c5, c6, c7, c8, c9, c10⟩ := HP.out.kp hk1
    have hok := Hok.out
    obtain ⟨o1, o2, o3, o4, o5, o6, o7, o8, o9, o10⟩ := hok
    obtain ⟨u1, u2⟩ := hu
    go_wp2_with fail
    refine (layOptions_any p A n c w1 (by omega) (by omega) (by omega) (by omega)).mono ?_
    rintro e w2 ⟨Ao, No, co, rfl, hoo, hb2⟩
    have hNo : No = (optB p).length := by rw [← hoo.len, bv_len]
    have hNo14 : No ≤ 14 := by have := (optB_len p).1; omega
    have hn128 : n ≤ 128 := by have := Hl.out; omega
    have HNo := Lib.hid hNo
    clear hNo
    have hk2 : Kp g W w2 := hk1.below (hb2.mono hk1.1)
    obtain ⟨g2, hg2⟩ : ∃ g2, w2.heap.size = g2 + 1 := ⟨w2.heap.size - 1, by have := hk2.1; omega⟩
    have hgg : g < g2 + 1 := by have := hk2.1; omega
    have hP2 := HP.out.kp hk2
    have hro : Rd w2 (g2 + 1) Ao No (bv (optB p)) := by rw [← hg2]; exact hoo.rd
    have hrd : Rd w2 (g2 + 1) A n (bv p.data) := (hr0.below hk2.2 (Nat.le_refl _)).more (by omega)
    have hkk : Kp g2 w2 w2 := ⟨by rw [hg2]; exact Nat.le_refl _, Below.refl _ _⟩
    have HK2 := Lib.hid hk2
    have HP2 := Lib.hid hP2
    have HG2 := Lib.hid hg2
    clear hb2 hk1 hk2 hoo c0 c1 c2 c3 c4 c5 c6 c7 c8 c9 c10 hg2 hr0 HC E0
    obtain ⟨c0, c1, c2, c3, c4, c5, c6, c7, c8, c9, c10⟩ := hP2
    go_wp2_with (first
      | (refine wp_make u8ty rfl (.const (.int .i64 0)) (.tmp 20) rfl rfl rfl (by omega) (by omega) (by omega) (by omega) (base := g2 + 1) (by rw [HG2.out]; exact Nat.le_refl _) ?_; intro g3 N3 C3 w3 hN3 hC3 ho3 hb3 _ hg3; subst hg3; have hk3 := hkk.below hb3; clear c0 c1 c2 c3 c4 c5 c6 c7 c8 c9 c10; obtain ⟨c0, c1, c2, c3, c4, c5, c6, c7, c8, c9, c10⟩ := HP2.out.below hk3.2 hgg)
      | (at_builtin; refine wp_app u8ty rfl (.tmp 22) (.tmp 32) rfl rfl rfl (ho3.alloc _) (rd_alloc _ _ _ (0, 0)) (four_one _ _ _ _) (by simp; omega) (by simp; omega) (hk3.alloc _).1 ?_; intro A4 N4 C4 w4 ho4 hN4 hb4 _; have hk4 := (hk3.alloc _).below hb4; clear c0 c1 c2 c3 c4 c5 c6 c7 c8 c9 c10; obtain ⟨c0, c1, c2, c3, c4, c5, c6, c7, c8, c9, c10⟩ := HP2.out.below hk4.2 hgg))
    have hz3 : N3 = 0 := by omega
    subst hz3
    have hN4' : N4 ≤ 4 := by simpa using hN4
    have ho4' : Ow w4 (g2 + 1) 5 A4 N4 C4 (bv [70, b8 p.src, b8 p.dst, b8 p.flags]) := by
      have k1 := b8_small p.src (by omega) (by omega)
      have k2 := b8_small p.dst (by omega) (by omega)
      have k3 := b8_small p.flags (by omega) (by omega)
      simpa [bv, k1, k2, k3] using ho4
    clear ho4 ho3
    refine (layI_any A4 N4 C4 (g2 + 1) 2 ([70, b8 p.src, b8 p.dst, b8 p.flags]) p.sport w4 ho4' hk4.1 (by omega) (by omega) (by omega) (by omega)).mono ?_
    rintro e w5 ⟨A5, N5, C5, rfl, hN5, ho5, hg5⟩
    have hk5 := hk4.grew hg5 (fun j hj => (ho4'.blk_lt j hj).1)
    clear c0 c1 c2 c3 c4 c5 c6 c7 c8 c9 c10; obtain ⟨c0, c1, c2, c3, c4, c5, c6, c7, c8, c9, c10⟩ := HP2.out.below hk5.2 hgg
    clear hg5 ho4'
    go_wp2_with fail
    refine (layI_any A5 N5 C5 (g2 + 1) 2 ([70, b8 p.src, b8 p.dst, b8 p.flags] ++ bigB p.sport 2) p.dport w5 ho5 hk5.1 (by omega) (by omega) (by omega) (by omega)).mono ?_
    rintro e w6 ⟨A6, N6, C6, rfl, hN6, ho6, hg6⟩
    have hk6 := hk5.grew hg6 (fun j hj => (ho5.blk_lt j hj).1)
    clear c0 c1 c2 c3 c4 c5 c6 c7 c8 c9 c10; obtain ⟨c0, c1, c2, c3, c4, c5, c6, c7, c8, c9, c10⟩ := HP2.out.below hk6.2 hgg
    clear hg6 ho5
    go_wp2_with fail
    refine (layW_any A6 N6 C6 (g2 + 1) 4 ([70, b8 p.src, b8 p.dst, b8 p.flags] ++ bigB p.sport 2 ++ bigB p.dport 2) p.seq w6 ho6 hk6.1 (by omega) (by omega) (by omega) (by omega)).mono ?_
    rintro e w7 ⟨A7, N7, C7, rfl, hN7, ho7, hg7⟩
    have hk7 := hk6.grew hg7 (fun j hj => (ho6.blk_lt j hj).1)
    clear c0 c1 c2 c3 c4 c5 c6 c7 c8 c9 c10; obtain ⟨c0, c1, c2, c3, c4, c5, c6, c7, c8, c9, c10⟩ := HP2.out.below hk7.2 hgg
    clear hg7 ho6
    go_wp2_with fail
    refine (layW_any A7 N7 C7 (g2 + 1) 4 ([70, b8 p.src, b8 p.dst, b8 p.flags] ++ bigB p.sport 2 ++ bigB p.dport 2 ++ bigB p.seq 4) p.ack w7 ho7 hk7.1 (by omega) (by omega) (by omega) (by omega)).mono ?_
    rintro e w8 ⟨A8, N8, C8, rfl, hN8, ho8, hg8⟩
    have hk8 := hk7.grew hg8 (fun j hj => (ho7.blk_lt j hj).1)
    clear c0 c1 c2 c3 c4 c5 c6 c7 c8 c9 c10; obtain ⟨c0, c1, c2, c3, c4, c5, c6, c7, c8, c9, c10⟩ := HP2.out.below hk8.2 hgg
    clear hg8 ho7
    go_wp2_with fail
    refine (layI_any A8 N8 C8 (g2 + 1) 2 ([70, b8 p.src, b8 p.dst, b8 p.flags] ++ bigB p.sport 2 ++ bigB p.dport 2 ++ bigB p.seq 4 ++ bigB p.ack 4) p.window w8 ho8 hk8.1 (by omega) (by omega) (by omega) (by omega)).mono ?_
    rintro e w9 ⟨A9, N9, C9, rfl, hN9, ho9, hg9⟩
    have hk9 := hk8.grew hg9 (fun j hj => (ho8.blk_lt j hj).1)
    clear c0 c1 c2 c3 c4 c5 c6 c7 c8 c9 c10; obtain ⟨c0, c1, c2, c3, c4, c5, c6, c7, c8, c9, c10⟩ := HP2.out.below hk9.2 hgg
    clear hg9 ho8
    have hfr : Ow w9 (g2 + 1) 5 A9 N9 C9 (bv (frontB p)) := ho9
    have hN9' : N9 ≤ 20 := by omega
    have e8 : (No : Int) % 256 = ((b8 ((optB p).length : Int)).toNat : Int) := by rw [b8_nat, HNo.out]
    have E8 := Lib.hid e8
    clear ho9 e8
    go_upto_region 13 with (at_builtin; refine wp_app u8ty rfl (.tmp 54) (.tmp 58) rfl rfl rfl (hfr.alloc _) (rd_alloc _ _ _ (0, 0)) (four_one _ _ _ _) (by simp; omega) (by simp; omega) (hk9.alloc _).1 ?_; intro A10 N10 C10 w10 ho10 hN10 hb10 _; have hk10 := (hk9.alloc _).below hb10; clear c0 c1 c2 c3 c4 c5 c6 c7 c8 c9 c10; obtain ⟨c0, c1, c2, c3, c4, c5, c6, c7, c8, c9, c10⟩ := HP2.out.below hk10.2 hgg)
    have hN10' : N10 ≤ 24 := by omega
    go_upto_region 14 with (at_builtin; refine wp_app u8ty rfl (.tmp 60) (.tmp 61) rfl rfl rfl ho10 (hro.below hk10.2 (Nat.le_refl _)) (bv_one _) (by omega) (by omega) hk10.1 ?_; intro A11 N11 C11 w11 ho11 hN11 hb11 _; have hk11 := hk10.below hb11; clear c0 c1 c2 c3 c4 c5 c6 c7 c8 c9 c10; obtain ⟨c0, c1, c2, c3, c4, c5, c6, c7, c8, c9, c10⟩ := HP2.out.below hk11.2 hgg)
    go_upto_region 15 with (at_builtin; refine wp_app u8ty rfl (.tmp 63) (.tmp 65) rfl rfl rfl ho11 (hrd.below hk11.2 (Nat.le_refl _)) (bv_one _) (by omega) (by omega) hk11.1 ?_; intro A12 N12 C12 w12 ho12 hN12 hb12 _; have hk12 := hk11.below hb12; clear c0 c1 c2 c3 c4 c5 c6 c7 c8 c9 c10; obtain ⟨c0, c1, c2, c3, c4, c5, c6, c7, c8, c9, c10⟩ := HP2.out.below hk12.2 hgg)
    have hbl : Ow w12 (g2 + 1) 5 A12 N12 C12 (bv (blankB p)) := by
      have e : bv (blankB p) = ((bv (frontB p) ++ [.int .u8 0, .int .u8 0, .int .u8 (No : Int), .int .u8 0]) ++ bv (optB p)) ++ bv p.data := by
        have k := b8_small (((optB p).length : Nat) : Int) (by omega) (by have := (optB_len p).1; omega)
        rw [← HNo.out] at k
        unfold blankB tailB
        rw [bv_app, bv_app, bv_app, bv_app, ← HNo.out]
        simp [bv, k]
      rw [e]
      exact ho12
    have hNb : N12 = (blankB p).length := by rw [← hbl.len, bv_len]
    have hN22 : 22 ≤ N12 ∧ N12 ≤ 164 := by
      have := blankB_len p
      have := Hl.out
      have := HNo.out
      omega
    have hcap := hbl.cap
    obtain ⟨gb, hA12, hgb1, hgb2⟩ := hbl.at0 (by omega)
    subst hA12
    have HNb := Lib.hid hNb
    have hpt : Parts (w12.alloc (.cells #[.slice (some ⟨gb, 0, none⟩) N12 C12] 23)) (w12.heap.size + 1) (some ⟨w12.heap.size, 0, none⟩) 1 [blankB p] := Parts.one hbl.rd hcap.1 (Nat.le_refl _) _
    have HPT := Lib.hid hpt
    have hsum : inet [blankB p] ≤ 65535 := sumP_le p
    have htot : tot [blankB p] ≤ 1099511627776 := by simp [tot]; omega
    have hinet := inet_any (some ⟨w12.heap.size, 0, none⟩) 1 1 _ _ _ (hpt.drewN 1) (by omega) htot
    clear hNb hpt htot ho10 ho11 ho12 hN10 hN11 hN12 hb10 hb11 hb12 HP2 c0 c1 c2 c3 c4 c5 c6 c7 c8 c9 c10
    have f1 : ¬ C12 = 18 := by omega
    have f2 : (18 : Int) ≤ (N12 : Int) := by omega
    have f3 : (18 : Int) ≤ (C12 : Int) := by omega
    go_region_law (first
      | (refine step_copy u8ty rfl (.tmp 68) (.tmp 72) rfl (off := 18) hrow hlr.rd (bv_one _) rfl rfl (fun hp => by simp) (by omega) (by omega) hk14.1 ?_; intro w15 ho15 hb15 _)
      | (go_simp; go_at_call 36; refine hinet.mono ?_; rintro e w13 ⟨rfl, q, hw13⟩; have hk13 := ((hk12.alloc (.cells #[.slice (some ⟨gb, 0, none⟩) N12 C12] 23)).drewN 1).drewN q; rw [← hw13] at hk13; have hr13 : Ow w13 (g2 + 1) 5 (some ⟨gb, 0, none⟩) N12 C12 (bv (blankB p)) := (by rw [hw13]; exact ((hbl.alloc _).drewN 1).drewN q); clear hw13)
      | (go_simp; go_at_call 35; refine (layH_any none 0 0 (g2 + 1) 2 [] _ _ (Ow.nil _ _ _) hk13.1 (by omega) (by omega) (by omega) (by omega)).mono ?_; rintro e w14 ⟨A14, N14, C14, rfl, hN14, hlr, hg14⟩; have hk14 := hk13.grew hg14 (fun _ h => by cases h); have hrow := hr13.kept hg14.1 (Or.inr (by simp [blk]))))
    have hk15 := hk14.below hb15
    have hfin : bv ([] ++ bigB ((inet [blankB p] : Nat) : Int) 2) = bv (bigB (sumP p) 2) := rfl
    rw [hfin, put_splice] at ho15
    clear hfin
    go_wp2_with fail
    go_ret2
    refine ⟨_, _, _, by rw [chk_ok Hok.out]; rfl, ?_, ?_⟩
    · rw [He.out]
      exact ho15.base (by rw [← Hg.out]; omega)
    · rw [← Hg.out]
      exact HB.out.trans ((HK2.out.2.mono (by omega)).trans (hk15.2.mono (by omega)))
  · have e0 := chk_no hok
    have he0 : putR p = [] := if_neg hok
    have He := Lib.hid he0
    have Hok := Lib.hid hok
    clear hok he0
    have hck := check_any p A n c
    rw [e0] at hck
    have HC := Lib.hid hck
    have E0 := Lib.hid e0
    clear hck e0
    go_enter Try.func15, Try.ntmps15
    go_upto_region 1 with fail
    have hW2 : w.alloc (.cells #[.int .i64 p.src, .int .i64 p.dst, .int .i64 p.sport, .int .i64 p.dport, .int .u32 p.seq, .int .u32 p.ack, .int .i64 p.flags, .int .i64 p.window, .int .i64 p.probe, .int .i64 p.origin, .slice A n c] 25) = W := HW.out.symm
    rw [hW2, ← Hg.out]
    clear hW2
    go_wp2_with fail
    refine (HC.out W Hl.out hn).mono ?_
    rintro e w1 ⟨rfl, hb1⟩
    have hk1 : Kp g W w1 := hk0.below (by rw [← Hs.out]; exact hb1)
    clear hb1
    go_wp2_with fail
    go_ret2
    refine ⟨none, 0, 0, by rw [chk_no Hok.out]; rfl, ?_, ?_⟩
    · rw [He.out]
      exact Ow.nil _ _ _
    · rw [← Hg.out]
      exact HB.out.trans (hk1.2.mono (by omega))
end Go.Proofs.Ytjpdamighffgfaa.pk
