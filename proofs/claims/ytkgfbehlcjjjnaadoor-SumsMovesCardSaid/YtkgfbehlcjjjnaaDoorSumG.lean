/- Contracts of Open and of the document's Seal and Open. -/
import Derived.Test.YtkgfbehlcjjjnaaDoorSumE
import Derived.Laws.Cover3
import Derived.ChangeKeysEq
namespace Go.Proofs.YtkgfbehlcjjjnaaDoor.sum
open Go.RowKit Mem SM lib CM

section
variable {P : Program} {w : World}
theorem copy_cut (T rt E : TypeId) (ht : P.underlying T = some (.slice E)) (A A2 : Option Addr) (d dc m c2 : Nat) (h : d ≤ m) : (Builtin.copy_ #[T, T] rt #[.slice A d dc, .slice A2 m c2]).run P w = (Builtin.copy_ #[T, T] rt #[.slice A d dc, .slice A2 d c2]).run P w := by
  cases A2 <;> simp [Builtin.copy_, run_underlying ht, Builtin.lenOf, Builtin.firstCells, Nat.min_eq_right h]
/-- copy onto a row of the call's own of a source that is as long or longer -/
theorem wp_copy_cut {ops : Array Oper} {rest : List Oper} {o : Oper} {a : Act} {Q : Exit → Act → World → Prop} {T E : TypeId} {z : Value} {bytes : Nat} (ty : Ty1 P T E z bytes) (hgd : o.guard = none) (x y : Operand)
    (ho : o.op = .call { callee := .builtin .copy, args := #[x, y], argTypes := #[T, T] }) {base B : Nat} {g n c off : Nat} {xs : List Value} (hown : Ow w base E (some ⟨g, 0, none⟩) n c xs)
    {A2 : Option Addr} {m c2 : Nat} {ys : List Value} {A : Option Addr} {d dc : Nat} (hr : Rd w B A2 d ys) (h1 : ∀ u ∈ ys, u.oneCell' = true) (hx : a.eval x = .slice A d dc) (hy : a.eval y = .slice A2 m c2)
    (hA : 0 < d → A = some ⟨g, off, none⟩) (hoff : off + d ≤ n) (hm : d ≤ m) (hbase : base ≤ w.heap.size)
    (h : ∀ w', Ow w' base E (some ⟨g, 0, none⟩) n c (splice xs off ys) → Below base w w' → w.grownBy w' (some g) → wpList P ops Q rest (a.put o.dst (goInt d)) w') :
    wpList P ops Q (o :: rest) a w := by
  refine wpList_plain hgd fun K hK => ?_
  obtain ⟨w', hrun, h2, h3⟩ := run_copy_ow (P := P) ty o.type hown (c2 := c2) hr h1 A d dc hA hoff (Nat.le_refl _)
  unfold Oper.wp execOp
  simp only [ho, resolve, invoke, builtin, Sem.run_bind, Sem.run_pure, Result.andThen_ok, List.map_toArray, List.map_cons, List.map_nil, hx, hy, copy_cut _ _ _ ty.ht _ _ _ _ _ _ hm, hrun]
  exact hK _ _ (h w' h2 (below_of_grown h3 hbase fun k hk => by obtain rfl := Option.some.inj hk; exact (hown.blk_lt _ rfl).1) h3)
end

theorem open_short (A : Option Addr) (n c : Nat) (w : World) (hn : n < 4) :
    Calls Tryd.prog 26 #[.slice A n c] w fun e w' => e = .returned (.tuple #[.slice none 0 0, .int .i64 2]) ∧ w = w' := by
  go_enter Tryd.func26, Tryd.ntmps26
  go_wp2
  go_ret2
  exact ⟨rfl, rfl⟩

theorem split_four {l : List UInt8} {k : Nat} (h : l.length = k + 4) : ∃ (t : List UInt8) (b0 b1 b2 b3 : UInt8), l = t ++ [b0, b1, b2, b3] ∧ t.length = k := by
  have hd : (l.drop k).length = 4 := by simp; omega
  match hm : l.drop k, hd with
  | [b0, b1, b2, b3], _ => exact ⟨l.take k, b0, b1, b2, b3, by rw [← hm, List.take_append_drop], by simp; omega⟩

/-- what stands in memory when the last four bytes are looked at -/
theorem four_cells {w : World} {B n : Nat} {A : Option Addr} {t : List UInt8} {b0 b1 b2 b3 : UInt8} {k : Nat} (h : Rd w B A n (bv (t ++ [b0, b1, b2, b3]))) (ht : t.length = k) (hn : n = k + 4) :
    ∃ b off, A = some ⟨b, off, none⟩ ∧ b < B ∧ w.cell? ⟨b, off + k, none⟩ = some (.int .u8 (b0.toNat : Int)) ∧ w.cell? ⟨b, off + k + 1, none⟩ = some (.int .u8 (b1.toNat : Int)) ∧
      w.cell? ⟨b, off + k + 2, none⟩ = some (.int .u8 (b2.toNat : Int)) ∧ w.cell? ⟨b, off + k + 3, none⟩ = some (.int .u8 (b3.toNat : Int)) := by
  obtain ⟨b, off, rfl, hbB, hcell⟩ := h.addr (by omega)
  subst ht
  have e : ∀ i, i < 4 → (bv (t ++ [b0, b1, b2, b3]))[t.length + i]? = (bv [b0, b1, b2, b3])[i]? := fun i hi => by
    rw [bv_app, List.getElem?_append_right (by rw [bv_len]; omega), bv_len]
    congr 1
    omega
  refine ⟨b, off, rfl, hbB, ?_, ?_, ?_, ?_⟩
  · rw [hcell _ (by omega)]; exact e 0 (by omega)
  · rw [Nat.add_assoc, hcell _ (by omega)]; exact e 1 (by omega)
  · rw [Nat.add_assoc, hcell _ (by omega)]; exact e 2 (by omega)
  · rw [Nat.add_assoc, hcell _ (by omega)]; exact e 3 (by omega)

theorem neq_four (a0 a1 a2 a3 d0 d1 d2 d3 : UInt8) (W : World) :
    (binOp .neq 36 (vec [a0, a1, a2, a3]) (vec [d0, d1, d2, d3])).run Tryd.prog W = .ok (.bool (!decide ([a0, a1, a2, a3] = [d0, d1, d2, d3]))) W := by
  obtain ⟨i, hi, hz, hsz, hby⟩ := u8ty.hi
  have hc : Tryd.prog.cellsOf 5 = 1 := by kernel_rfl
  have hp : ∀ (W : World) (x0 x1 x2 x3 : Value) (h : ∀ u ∈ [x0, x1, x2, x3], u.oneCell' = true), ((part 5 #[x0, x1, x2, x3] 0).run Tryd.prog W = .ok x0 W ∧ (part 5 #[x0, x1, x2, x3] 1).run Tryd.prog W = .ok x1 W ∧ (part 5 #[x0, x1, x2, x3] 2).run Tryd.prog W = .ok x2 W ∧ (part 5 #[x0, x1, x2, x3] 3).run Tryd.prog W = .ok x3 W) := by
    intro W x0 x1 x2 x3 h
    refine ⟨?_, ?_, ?_, ?_⟩ <;> simp [part, go_sem, hi, hsz, typeInfo, sizeOf]
  have he : ∀ (W : World) (x y : UInt8), (Op.equalIn 9999 5 (.int .u8 (x.toNat : Int)) (.int .u8 (y.toNat : Int))).run Tryd.prog W = .ok (decide (x = y)) W := fun W x y => by
    rw [run_equalIn_int W 9998 5 .u8 .u8 _ _ Tryd.underlying5]
    congr 1
    rw [Bool.eq_iff_iff, beq_iff_eq, decide_eq_true_eq, ← UInt8.toNat_inj]
    omega
  rw [vec_four, vec_four, run_neq_struct, run_equalIn_array W 9999 _ _ Tryd.underlying36 hi, hc, show List.range 4 = [0, 1, 2, 3] from by decide]
  have g : ∀ (W : World) (x0 x1 x2 x3 : UInt8), ∀ u ∈ [Value.int .u8 (x0.toNat : Int), .int .u8 (x1.toNat : Int), .int .u8 (x2.toNat : Int), .int .u8 (x3.toNat : Int)], u.oneCell' = true := by simp [Value.oneCell']
  have p0 := fun (W : World) (x0 x1 x2 x3 : UInt8) => (hp W _ _ _ _ (g W x0 x1 x2 x3)).1
  have p1 := fun (W : World) (x0 x1 x2 x3 : UInt8) => (hp W _ _ _ _ (g W x0 x1 x2 x3)).2.1
  have p2 := fun (W : World) (x0 x1 x2 x3 : UInt8) => (hp W _ _ _ _ (g W x0 x1 x2 x3)).2.2.1
  have p3 := fun (W : World) (x0 x1 x2 x3 : UInt8) => (hp W _ _ _ _ (g W x0 x1 x2 x3)).2.2.2
  by_cases h0 : a0 = d0 <;> by_cases h1 : a1 = d1 <;> by_cases h2 : a2 = d2 <;> by_cases h3 : a3 = d3 <;> simp [Op.eqItems, h0, h1, h2, h3, he, p0, p1, p2, p3, Sem.run_bind, Sem.run_pure]

theorem splice_all (N : Nat) (z : Value) (l : List Value) (h : l.length = N) : splice (List.replicate N z) 0 l = l := by
  unfold splice
  rw [List.take_zero, List.nil_append, Nat.zero_add, List.drop_of_length_le (by simp [h]), List.append_nil]
theorem crc_named (A : Option Addr) (n c B : Nat) (l : List UInt8) (w : World) (h : Parts w B A n [l]) (ht : Tab w) (hn : n ≤ 1099511627776) (htot : l.length ≤ 1099511627776) (C : BitVec 32) (hC : crc l = C) :
    Calls Tryd.prog 23 #[.slice A n c] w fun e w' => e = .returned (.int .u32 (C.toNat : Int)) ∧ w = w' := by
  subst hC
  have := crc_any A n c B [l] w h ht hn (by simpa [tot] using htot)
  rwa [show [l].flatten = l from by simp] at this

set_option maxHeartbeats 2000000 in
theorem open_bad (A : Option Addr) (c B k : Nat) (t : List UInt8) (b0 b1 b2 b3 : UInt8) (w : World) (h : Rd w B A (k + 4) (bv (t ++ [b0, b1, b2, b3]))) (htk : t.length = k) (hc : k + 4 ≤ c) (ht : Tab w) (hB : B ≤ w.heap.size) (hn : k ≤ 1048576) (d0 d1 d2 d3 : UInt8) (hle : le4 (crc t) = [d0, d1, d2, d3]) (hq : decide ([b0, b1, b2, b3] = [d0, d1, d2, d3]) = false) :
    Calls Tryd.prog 26 #[.slice A (k + 4) c] w fun e w' => e = .returned (.tuple #[.slice none 0 0, .int .i64 10]) ∧ Below w.heap.size w w' := by
  have HT := Lib.hid ht
  have hpos := ht.pos
  clear ht
  obtain ⟨b, off, rfl, hbB, c0, c1, c2, c3⟩ := four_cells h htk rfl
  have HK := Lib.hid htk
  have f2 : ¬ c = k := by omega
  have f3 : (k : Int) ≤ (k : Int) + 4 := by omega
  have f4 : (k : Int) ≤ (c : Int) := by omega
  have f5 : k ≤ c := by omega
  have ka : ∀ (W : World) (a : Option Addr) (cap : Nat), (Instr.arrayAt 36 (.slice a 4 cap)).run Tryd.prog W = .ok (.pointer a) W := fun W a cap => run_arrayAt W 36 5 4 a 4 cap Tryd.underlying36 (Nat.le_refl _)
  have hrt : Rd w B (some ⟨b, off, none⟩) k (bv t) := by
    have := h.cut (l := 0) (m := k) (by omega) (A' := some ⟨b, off, none⟩) (fun _ => by simp [Addr.add])
    rw [List.drop_zero, ← bv_take] at this
    simpa [htk] using this
  have hp := Parts.one hrt (show k ≤ c by omega) hB 31
  have HP := Lib.hid hp
  obtain ⟨C, hC⟩ : ∃ C, crc t = C := ⟨_, rfl⟩
  rw [hC] at hle
  have HC := Lib.hid hC
  have HLE := Lib.hid hle
  have HQ := Lib.hid hq
  clear hC hq
  have kg : ∀ W : World, (eqGuard .neq 36 (.tmp 15) (.tmp 21) (.agg #[.int .u8 (b0.toNat : Int), .int .u8 (b1.toNat : Int), .int .u8 (b2.toNat : Int), .int .u8 (b3.toNat : Int)]) (vec (le4 C))).run Tryd.prog W = .ok () W := fun W => by
    rw [HLE.out, vec_four]
    exact run_eqGuard_agg W _ _ _ _ _ _ (by kernel_rfl)
  have kn : ∀ W : World, (binOp .neq 36 (.agg #[.int .u8 (b0.toNat : Int), .int .u8 (b1.toNat : Int), .int .u8 (b2.toNat : Int), .int .u8 (b3.toNat : Int)]) (vec (le4 C))).run Tryd.prog W = .ok (.bool true) W := fun W => by
    have := neq_four b0 b1 b2 b3 d0 d1 d2 d3 W
    rw [HQ.out, ← HLE.out] at this
    exact this
  clear htk hp hle
  go_enter Tryd.func26, Tryd.ntmps26
  go_wp2_with fail
  have hpd : Parts (w.alloc (.cells #[.slice (some ⟨b, off, none⟩) k c] 31)).drew (w.heap.size + 1) (some ⟨w.heap.size, 0, none⟩) 1 [t] := HP.out.drewN 1
  have htd : Tab (w.alloc (.cells #[.slice (some ⟨b, off, none⟩) k c] 31)).drew := (HT.out.below ((Below.refl w.heap.size w).alloc (Nat.le_refl _) _) hpos).drewN 1
  have hall : ∀ w' : World, Below B w w' → w'.cell? ⟨b, off + k, none⟩ = some (.int .u8 (b0.toNat : Int)) ∧ w'.cell? ⟨b, off + k + 1, none⟩ = some (.int .u8 (b1.toNat : Int)) ∧
      w'.cell? ⟨b, off + k + 2, none⟩ = some (.int .u8 (b2.toNat : Int)) ∧ w'.cell? ⟨b, off + k + 3, none⟩ = some (.int .u8 (b3.toNat : Int)) := fun w' hb =>
    ⟨(hb.cell (p := ⟨b, off + k, none⟩) hbB).trans c0, (hb.cell (p := ⟨b, off + k + 1, none⟩) hbB).trans c1, (hb.cell (p := ⟨b, off + k + 2, none⟩) hbB).trans c2, (hb.cell (p := ⟨b, off + k + 3, none⟩) hbB).trans c3⟩
  have hba : Below w.heap.size w (w.alloc (.cells #[.slice (some ⟨b, off, none⟩) k c] 31)).drew := ((Below.refl w.heap.size w).alloc (Nat.le_refl _) _).drew
  obtain ⟨e0, e1, e2, e3⟩ := hall _ (hba.mono hB)
  have HALL := Lib.hid hall
  have HBA := Lib.hid hba
  clear hall hba
  have HPD := Lib.hid hpd
  have HTD := Lib.hid htd
  clear hpd htd
  go_region_law (first
    | (go_simp; go_at_call 23; refine (crc_named _ _ _ _ t _ HPD.out HTD.out (by omega) (by rw [HK.out]; omega) C HC.out).mono ?_; rintro e w1 ⟨rfl, hw⟩; have hb1 := HBA.out; rw [hw] at hb1; obtain ⟨g0, g1, g2, g3⟩ := HALL.out w1 (hb1.mono hB))
    | (go_simp; go_at_call 35; refine (lay_any C _).mono ?_; rintro e w2 ⟨rfl, hb2⟩; have hb2t := hb1.trans (hb2.mono hb1.size); obtain ⟨j0, j1, j2, j3⟩ := HALL.out w2 (hb2t.mono hB)))
  all_goals (go_wp2_with fail; go_ret2; exact ⟨rfl, hb2t⟩)

/-- what is returned: a copy of the bytes before the sum -/
def Opened (w : World) (t : List UInt8) (e : Ending) (w' : World) : Prop := ∃ A n c, e = .returned (.tuple #[.slice A n c, .int .i64 0]) ∧ Ow w' w.heap.size 5 A n c (bv t) ∧ Below w.heap.size w w'

set_option maxHeartbeats 2000000 in
theorem open_good (A : Option Addr) (c B k : Nat) (t : List UInt8) (b0 b1 b2 b3 : UInt8) (w : World) (h : Rd w B A (k + 4) (bv (t ++ [b0, b1, b2, b3]))) (htk : t.length = k) (hc : k + 4 ≤ c) (ht : Tab w) (hB : B ≤ w.heap.size) (hn : k ≤ 1048576) (d0 d1 d2 d3 : UInt8) (hle : le4 (crc t) = [d0, d1, d2, d3]) (hq : decide ([b0, b1, b2, b3] = [d0, d1, d2, d3]) = true) :
    Calls Tryd.prog 26 #[.slice A (k + 4) c] w (Opened w t) := by
  have HT := Lib.hid ht
  have hpos := ht.pos
  clear ht
  obtain ⟨b, off, rfl, hbB, c0, c1, c2, c3⟩ := four_cells h htk rfl
  have HK := Lib.hid htk
  have f2 : ¬ c = k := by omega
  have f3 : (k : Int) ≤ (k : Int) + 4 := by omega
  have f4 : (k : Int) ≤ (c : Int) := by omega
  have f5 : k ≤ c := by omega
  have ka : ∀ (W : World) (a : Option Addr) (cap : Nat), (Instr.arrayAt 36 (.slice a 4 cap)).run Tryd.prog W = .ok (.pointer a) W := fun W a cap => run_arrayAt W 36 5 4 a 4 cap Tryd.underlying36 (Nat.le_refl _)
  have hrt : Rd w B (some ⟨b, off, none⟩) k (bv t) := by
    have := h.cut (l := 0) (m := k) (by omega) (A' := some ⟨b, off, none⟩) (fun _ => by simp [Addr.add])
    rw [List.drop_zero, ← bv_take] at this
    simpa [htk] using this
  have hp := Parts.one hrt (show k ≤ c by omega) hB 31
  have HP := Lib.hid hp
  obtain ⟨C, hC⟩ : ∃ C, crc t = C := ⟨_, rfl⟩
  rw [hC] at hle
  have HC := Lib.hid hC
  have HLE := Lib.hid hle
  have HQ := Lib.hid hq
  clear hC hq
  have kg : ∀ W : World, (eqGuard .neq 36 (.tmp 15) (.tmp 21) (.agg #[.int .u8 (b0.toNat : Int), .int .u8 (b1.toNat : Int), .int .u8 (b2.toNat : Int), .int .u8 (b3.toNat : Int)]) (vec (le4 C))).run Tryd.prog W = .ok () W := fun W => by
    rw [HLE.out, vec_four]
    exact run_eqGuard_agg W _ _ _ _ _ _ (by kernel_rfl)
  have kn : ∀ W : World, (binOp .neq 36 (.agg #[.int .u8 (b0.toNat : Int), .int .u8 (b1.toNat : Int), .int .u8 (b2.toNat : Int), .int .u8 (b3.toNat : Int)]) (vec (le4 C))).run Tryd.prog W = .ok (.bool false) W := fun W => by
    have := neq_four b0 b1 b2 b3 d0 d1 d2 d3 W
    rw [HQ.out, ← HLE.out] at this
    exact this
  clear htk hp hle
  go_enter Tryd.func26, Tryd.ntmps26
  go_wp2_with fail
  have hpd : Parts (w.alloc (.cells #[.slice (some ⟨b, off, none⟩) k c] 31)).drew (w.heap.size + 1) (some ⟨w.heap.size, 0, none⟩) 1 [t] := HP.out.drewN 1
  have htd : Tab (w.alloc (.cells #[.slice (some ⟨b, off, none⟩) k c] 31)).drew := (HT.out.below ((Below.refl w.heap.size w).alloc (Nat.le_refl _) _) hpos).drewN 1
  have hall : ∀ w' : World, Below B w w' → w'.cell? ⟨b, off + k, none⟩ = some (.int .u8 (b0.toNat : Int)) ∧ w'.cell? ⟨b, off + k + 1, none⟩ = some (.int .u8 (b1.toNat : Int)) ∧
      w'.cell? ⟨b, off + k + 2, none⟩ = some (.int .u8 (b2.toNat : Int)) ∧ w'.cell? ⟨b, off + k + 3, none⟩ = some (.int .u8 (b3.toNat : Int)) := fun w' hb =>
    ⟨(hb.cell (p := ⟨b, off + k, none⟩) hbB).trans c0, (hb.cell (p := ⟨b, off + k + 1, none⟩) hbB).trans c1, (hb.cell (p := ⟨b, off + k + 2, none⟩) hbB).trans c2, (hb.cell (p := ⟨b, off + k + 3, none⟩) hbB).trans c3⟩
  have hba : Below w.heap.size w (w.alloc (.cells #[.slice (some ⟨b, off, none⟩) k c] 31)).drew := ((Below.refl w.heap.size w).alloc (Nat.le_refl _) _).drew
  obtain ⟨e0, e1, e2, e3⟩ := hall _ (hba.mono hB)
  have HALL := Lib.hid hall
  have HBA := Lib.hid hba
  clear hall hba
  have HPD := Lib.hid hpd
  have HTD := Lib.hid htd
  clear hpd htd
  go_region_law (first
    | (go_simp; go_at_call 23; refine (crc_named _ _ _ _ t _ HPD.out HTD.out (by omega) (by rw [HK.out]; omega) C HC.out).mono ?_; rintro e w1 ⟨rfl, hw⟩; have hb1 := HBA.out; rw [hw] at hb1; obtain ⟨g0, g1, g2, g3⟩ := HALL.out w1 (hb1.mono hB))
    | (go_simp; go_at_call 35; refine (lay_any C _).mono ?_; rintro e w2 ⟨rfl, hb2⟩; have hb2t := hb1.trans (hb2.mono hb1.size); obtain ⟨j0, j1, j2, j3⟩ := HALL.out w2 (hb2t.mono hB)))
  all_goals go_frame
  all_goals (go_wp2_with (first
    | (refine wp_make u8ty rfl (.tmp 23) (.tmp 23) rfl rfl rfl (by omega) (by omega) (by omega) (by omega) (base := w2.heap.size) (Nat.le_refl _) ?_; intro g N C2 w3 hN hC2 ho hb3 hg3 hgs; have hNk : N = k := (by omega); have HN := Lib.hid hNk; have Hg := Lib.hid hgs; have hb3' := hb2t.trans (hb3.mono hb2t.size); clear hN hC2 hgs hNk)
    | (refine wp_copy_cut u8ty rfl (.tmp 25) (.tmp 26) rfl (off := 0) ho (ys := bv t) (by rw [HN.out]; exact hrt.below hb3' hB) (bv_one _) rfl rfl (fun _ => rfl) (by omega) (by have := HN.out; omega) (by have := hb3.size; omega) ?_; intro w4 ho4 hb4 _; have hb4' := hb3'.trans (hb4.mono hb2t.size))))
  all_goals (go_ret2; refine ⟨_, _, _, rfl, ?_, hb4'⟩)
  all_goals (rw [splice_all _ _ _ (by rw [bv_len, HK.out, HN.out])] at ho4; exact ho4.base hb2t.size)

end Go.Proofs.YtkgfbehlcjjjnaaDoor.sum
