/- Slices as lists: what a slice value shows in a world ('Rd'), rows that the call itself made ('Ow'), and the operations append, copy, make, slicing and indexing over them. No program is named here. -/
import Derived.WalkKit
import Derived.WalkSpells
import Derived.WalkLawsBesides
import Derived.Maps.AppendAt
import Derived.Laws.CopyOwn
import Derived.Deep.AppendLies
import Derived.Deep.Draws
import Derived.Lib.Hide
import Derived.StillTailTactics
import Derived.Deep.RegionLaw
import Derived.Deep.QuietTactic
import Derived.BigQuiet
import Derived.Deep.LoopGhost
import Derived.Deep.DeepMust
import Derived.Deep.DeepFit
import Derived.Deep.DeepCutAuto
namespace Go.Proofs.YtbcgnacfhpahkaaDoor.Mem
open Go.RowKit

/-- Bytes as values. -/
def bv (l : List UInt8) : List Value := l.map fun b => .int .u8 (b.toNat : Int)
/-- ints as values. -/
def iv (l : List Int) : List Value := l.map fun n => .int .i64 n

theorem bv_len (l : List UInt8) : (bv l).length = l.length := by simp [bv]
theorem iv_len (l : List Int) : (iv l).length = l.length := by simp [iv]
theorem bv_app (l r : List UInt8) : bv (l ++ r) = bv l ++ bv r := by simp [bv]
theorem iv_app (l r : List Int) : iv (l ++ r) = iv l ++ iv r := by simp [iv]
theorem bv_take (l : List UInt8) (n : Nat) : bv (l.take n) = (bv l).take n := by simp [bv]
theorem bv_drop (l : List UInt8) (n : Nat) : bv (l.drop n) = (bv l).drop n := by simp [bv]
theorem bv_nil : bv [] = [] := rfl
theorem iv_nil : iv [] = [] := rfl
theorem bv_one (l : List UInt8) : ∀ u ∈ bv l, u.oneCell' = true := by
  intro u hu
  obtain ⟨b, _, rfl⟩ := List.mem_map.1 hu
  rfl
theorem iv_one (l : List Int) : ∀ u ∈ iv l, u.oneCell' = true := by
  intro u hu
  obtain ⟨b, _, rfl⟩ := List.mem_map.1 hu
  rfl
theorem bv_at (l : List UInt8) (k : Nat) (h : k < l.length) : (bv l)[k]? = some (.int .u8 ((l[k]).toNat : Int)) := by
  simp [bv, h]
theorem iv_at (l : List Int) (k : Nat) (h : k < l.length) : (iv l)[k]? = some (.int .i64 l[k]) := by
  simp [iv, h]
theorem bv_inj : ∀ {l r : List UInt8}, bv l = bv r → l = r
  | [], [], _ => rfl
  | [], _ :: _, h => by simp [bv] at h
  | _ :: _, [], h => by simp [bv] at h
  | a :: l, b :: r, h => by
    simp only [bv, List.map_cons, List.cons.injEq, Value.int.injEq, true_and] at h
    have h1 : a = b := UInt8.toNat_inj.1 (by omega)
    have h2 : l = r := bv_inj h.2
    rw [h1, h2]
theorem bv_set (l : List UInt8) (k : Nat) (b : UInt8) : bv (l.set k b) = (bv l).set k (.int .u8 (b.toNat : Int)) := by
  simp [bv, List.map_set]

theorem bv_head {l : List UInt8} (h : 0 < l.length) : ∃ b : UInt8, (bv l)[0]? = some (.int .u8 (b.toNat : Int)) := ⟨l[0], bv_at l 0 h⟩

/-- The slice '.slice A n _' shows the cells xs in w; they lie below block B. -/
structure Rd (w : World) (B : Nat) (A : Option Addr) (n : Nat) (xs : List Value) : Prop where
  len : xs.length = n
  addr : 0 < n → ∃ b off, A = some ⟨b, off, none⟩ ∧ b < B ∧ ∀ i, i < n → w.cell? ⟨b, off + i, none⟩ = xs[i]?

section rd
variable {w w' : World} {B B' n : Nat} {A : Option Addr} {xs : List Value}
theorem Rd.below (h : Rd w B A n xs) {B' : Nat} (hb : Below B' w w') (hB : B ≤ B') : Rd w' B A n xs :=
  ⟨h.len, fun hn => by
    obtain ⟨b, off, e, hlt, hc⟩ := h.addr hn
    exact ⟨b, off, e, hlt, fun i hi => (hb.cell (p := ⟨b, off + i, none⟩) (Nat.lt_of_lt_of_le hlt hB)).trans (hc i hi)⟩⟩
theorem Rd.more (h : Rd w B A n xs) (hB : B ≤ B') : Rd w B' A n xs :=
  ⟨h.len, fun hn => by
    obtain ⟨b, off, e, hlt, hc⟩ := h.addr hn
    exact ⟨b, off, e, Nat.lt_of_lt_of_le hlt hB, hc⟩⟩
theorem Rd.nil (w : World) (B : Nat) (A : Option Addr) : Rd w B A 0 [] := ⟨rfl, fun h => absurd h (by omega)⟩
theorem Rd.at_ (h : Rd w B A n xs) {k : Nat} (hk : k < n) : ∃ b off, A = some ⟨b, off, none⟩ ∧ b < B ∧ w.cell? ⟨b, off + k, none⟩ = xs[k]? := by
  obtain ⟨b, off, e, hlt, hc⟩ := h.addr (by omega)
  exact ⟨b, off, e, hlt, hc k hk⟩
theorem Rd.drewN (h : Rd w B A n xs) (k : Nat) : Rd (w.drewN k) B A n xs := ⟨h.len, h.addr⟩
theorem Rd.drew (h : Rd w B A n xs) : Rd w.drew B A n xs := ⟨h.len, h.addr⟩
/-- a cut of it: what 's[l:h]' shows -/
theorem Rd.cut (h : Rd w B A n xs) {l m : Nat} (hm : l + m ≤ n) {A' : Option Addr} (hA : 0 < m → A' = A.map (·.add l)) : Rd w B A' m ((xs.drop l).take m) := by
  refine ⟨by simp [h.len]; omega, fun hn => ?_⟩
  obtain ⟨b, off, rfl, hlt, hc⟩ := h.addr (by omega)
  refine ⟨b, off + l, by rw [hA hn]; simp [Addr.add], hlt, fun i hi => ?_⟩
  rw [Nat.add_assoc, hc (l + i) (by omega), List.getElem?_take_of_lt hi, List.getElem?_drop]
theorem Rd.grown (h : Rd w B A n xs) {row : Option Nat} (hg : w.grownBy w' row) (hB : B ≤ w.heap.size) (hr : ∀ k, row = some k → B ≤ k) : Rd w' B A n xs :=
  ⟨h.len, fun hn => by
    obtain ⟨b, off, e, hlt, hc⟩ := h.addr hn
    exact ⟨b, off, e, hlt, fun i hi => (World.cell?_of_block (w := w) (hg.block b (by omega) (fun e => by have := hr _ e.symm; omega))).trans (hc i hi)⟩⟩
end rd

/-- The slice '.slice A n c' is a row that was made from block B on; its first cells are xs. -/
def Ow (w : World) (B : Nat) (E : TypeId) (A : Option Addr) (n c : Nat) (xs : List Value) : Prop := w.ownsRow B E 1 (.slice A n c) n xs
/-- its block -/
def blk (A : Option Addr) : Option Nat := A.map (·.block)

section ow
variable {w w' : World} {B : Nat} {E : TypeId} {A : Option Addr} {n c : Nat} {xs : List Value}
theorem Ow.len (h : Ow w B E A n c xs) : xs.length = n := by have := h.1; omega
theorem Ow.cap (h : Ow w B E A n c xs) : n ≤ c ∧ c ≤ maxLen := by
  rcases h.2 with ⟨e, rfl⟩ | ⟨g, cap, cur, e, _, _, h1, h2, _⟩
  · injection e with _ _ e; subst e; simp [maxLen]
  · injection e with _ _ e; subst e; exact ⟨h1, h2⟩
theorem Ow.rd (h : Ow w B E A n c xs) : Rd w w.heap.size A n xs := by
  refine ⟨h.len, fun hn => ?_⟩
  rcases h.2 with ⟨_, rfl⟩ | ⟨g, cap, cur, e, hB, hg, h1, h2, hs, ht⟩
  · omega
  · injection e with e1 _ e2
    subst e1
    have hlt : g < w.heap.size := by
      rcases Nat.lt_or_ge g w.heap.size with h | h
      · exact h
      · rw [Array.getElem?_eq_none h] at hg; cases hg
    refine ⟨g, 0, rfl, hlt, fun i hi => ?_⟩
    have hc := World.ownsRow.cells h (g := g) rfl i
    have hx : i < xs.length := by rw [h.len]; exact hi
    rw [List.getElem?_eq_getElem hx]
    have := hc xs[i] (List.getElem?_eq_getElem hx)
    simpa [Addr.add_lit] using this
theorem Ow.blk_lt (h : Ow w B E A n c xs) : ∀ k, blk A = some k → B ≤ k ∧ k < w.heap.size := by
  intro k hk
  refine World.ownsRow.lt h k ?_
  cases A with
  | none => simp [blk] at hk
  | some a => simpa [blk, Value.ownBlock] using hk
theorem Ow.kept (h : Ow w B E A n c xs) {row : Option Nat} (hg : w.grownBy w' row) (hne : blk A = none ∨ blk A ≠ row) : Ow w' B E A n c xs := by
  refine World.ownsRow.kept h hg ?_
  cases A with
  | none => exact Or.inl rfl
  | some a => simpa [blk, Value.ownBlock] using hne
theorem Ow.below (h : Ow w B E A n c xs) {B' : Nat} (hb : Below B' w w') (hB : w.heap.size ≤ B') : Ow w' B E A n c xs := by
  refine Ow.kept (row := none) h ⟨hb.os, hb.tape, hb.output, hb.size, fun k hk _ => hb.block k (by omega)⟩ ?_
  cases hA : blk A with
  | none => exact Or.inl rfl
  | some a => exact Or.inr (by simp)
theorem Ow.alloc (h : Ow w B E A n c xs) (o : Obj) : Ow (w.alloc o) B E A n c xs := World.ownsRow.alloc h o
theorem Ow.drew (h : Ow w B E A n c xs) : Ow w.drew B E A n c xs := ⟨h.1, h.2⟩
theorem Ow.drewN (h : Ow w B E A n c xs) (k : Nat) : Ow (w.drewN k) B E A n c xs := ⟨h.1, h.2⟩
theorem Ow.base (h : Ow w B E A n c xs) {B' : Nat} (hB : B' ≤ B) : Ow w B' E A n c xs := by
  refine ⟨h.1, ?_⟩
  rcases h.2 with h | ⟨g, cap, cur, e, hb, r⟩
  · exact Or.inl h
  · exact Or.inr ⟨g, cap, cur, e, by omega, r⟩
theorem Ow.nil (w : World) (B : Nat) (E : TypeId) : Ow w B E none 0 0 [] := World.ownsRow_nil w B E 1
end ow

/-- What a type's row of the table says of a slice of one-cell elements. -/
structure Ty1 (P : Program) (T E : TypeId) (z : Value) (bytes : Nat) : Prop where
  ht : P.underlying T = some (.slice E)
  hi : ∃ i, P.info? E = some i ∧ i.zero = some z ∧ i.size = 1 ∧ i.bytes = bytes
  hz : z.cells = #[z]

theorem one1 {x : Value} (h : x.oneCell' = true) : ∀ u ∈ [x], u.oneCell' = true := by
  intro u hu
  simp at hu
  subst hu
  exact h

/-- what an append leaves: every elder block but the row's own is as it was; the row lies where it lay, or in a new block -/
def Grew (w w' : World) (A A' : Option Addr) : Prop := w.grownBy w' (blk A) ∧ (blk A' = blk A ∨ ∃ k, w.heap.size ≤ k ∧ blk A' = some k)
theorem Grew.refl (w : World) (A : Option Addr) : Grew w w A A := ⟨⟨rfl, rfl, rfl, Nat.le_refl _, fun _ _ _ => rfl⟩, Or.inl rfl⟩
theorem Grew.trans {w w1 w2 : World} {A A1 A2 : Option Addr} (h : Grew w w1 A A1) (k : Grew w1 w2 A1 A2) : Grew w w2 A A2 := by
  refine ⟨⟨k.1.os.trans h.1.os, k.1.tape.trans h.1.tape, k.1.output.trans h.1.output, Nat.le_trans h.1.size k.1.size, fun i hi hne => ?_⟩, ?_⟩
  · refine (k.1.block i (Nat.lt_of_lt_of_le hi h.1.size) ?_).trans (h.1.block i hi hne)
    rcases h.2 with e | ⟨j, hj, e⟩
    · rw [e]; exact hne
    · rw [e]; intro e2; injection e2 with e2; omega
  · rcases k.2 with e | ⟨j, hj, e⟩
    · rw [e]; exact h.2
    · exact Or.inr ⟨j, Nat.le_trans h.1.size hj, e⟩
theorem Grew.alloc {w w1 : World} {A A1 : Option Addr} (h : Grew w w1 A A1) (o : Obj) : Grew w (w1.alloc o) A A1 :=
  ⟨⟨h.1.os, h.1.tape, h.1.output, Nat.le_trans h.1.size (by simp), fun i hi hne => (Below.heap_alloc w1 o i (Nat.lt_of_lt_of_le hi h.1.size)).trans (h.1.block i hi hne)⟩, h.2⟩
theorem Grew.drew {w w1 : World} {A A1 : Option Addr} (h : Grew w w1 A A1) : Grew w w1.drew A A1 := ⟨⟨h.1.os, h.1.tape, h.1.output, h.1.size, h.1.block⟩, h.2⟩
theorem Grew.drewN {w w1 : World} {A A1 : Option Addr} (h : Grew w w1 A A1) (n : Nat) : Grew w (w1.drewN n) A A1 := ⟨⟨h.1.os, h.1.tape, h.1.output, h.1.size, h.1.block⟩, h.2⟩
theorem Grew.below {w w1 : World} {A A1 : Option Addr} (h : Grew w w1 A A1) {B : Nat} (hB : B ≤ w.heap.size) (hA : ∀ k, blk A = some k → B ≤ k) : Below B w w1 := (Below.refl B w).grown h.1 hB hA
theorem Rd.grew {w w1 : World} {A1 A2 : Option Addr} (h : Grew w w1 A1 A2) {B n : Nat} {A : Option Addr} {xs : List Value} (hr : Rd w B A n xs) (hB : B ≤ w.heap.size) (hA : ∀ k, blk A1 = some k → B ≤ k) : Rd w1 B A n xs :=
  hr.grown h.1 hB hA

section ops
variable {P : Program} {w : World}

theorem run_append_empty (t ty e : TypeId) (i : TypeInfo) (ht : P.underlying t = some (.slice e)) (hi : P.info? e = some i)
    (base : Nat) (A : Option Addr) (n c : Nat) (xs : List Value) (hown : Ow w base e A n c xs) (A2 : Option Addr) (c2 : Nat) :
    (Builtin.append_ #[t, t] ty #[.slice A n c, .slice A2 0 c2]).run P w = .ok (.slice A n c) w := by
  have hl : ∀ (x : Addr), (loadCells x 0).run P w = .ok #[] w := fun x => by simpa using run_loadCells_list (P := P) w x [] (by simp)
  have hc := hown.cap.1
  cases A2 <;> cases A <;> simp [Builtin.append_, run_underlying ht, sizeOf, typeInfo, hi, Builtin.lenOf, Builtin.firstCells, hc, storeCells, hl]

theorem run_app {T E : TypeId} {z : Value} {bytes : Nat} (ty : Ty1 P T E z bytes) (rt : TypeId) {base B : Nat} {A : Option Addr} {n c : Nat} {xs : List Value} (hown : Ow w base E A n c xs)
    {A2 : Option Addr} {m c2 : Nat} {ys : List Value} (hr : Rd w B A2 m ys) (h1 : ∀ u ∈ ys, u.oneCell' = true) (hb : (n + m) * bytes ≤ 140737488355328) (h63 : n + m ≤ 9223372036854775807) (hbase : base ≤ w.heap.size) :
    ∃ A' N c' w', (Builtin.append_ #[T, T] rt #[.slice A n c, .slice A2 m c2]).run P w = .ok (.slice A' N c') w' ∧ N = n + m ∧ Ow w' base E A' N c' (xs ++ ys) ∧ w.grownBy w' (blk A) ∧
      (blk A' = blk A ∨ blk A' = some w.heap.size) := by
  obtain ⟨i, hi, hz, hsz, hby⟩ := ty.hi
  rcases Nat.eq_zero_or_pos m with rfl | hm
  · have hn : ys = [] := List.eq_nil_of_length_eq_zero hr.len
    subst hn
    exact ⟨A, n, c, w, run_append_empty T rt E i ty.ht hi base A n c xs hown A2 c2, rfl, by simpa using hown, ⟨rfl, rfl, rfl, Nat.le_refl _, fun _ _ _ => rfl⟩, Or.inl rfl⟩
  · obtain ⟨b, off, rfl, hlt, hc⟩ := hr.addr hm
    obtain ⟨v', w', hrun, h2, h3, _, h5⟩ := run_append_own_at (P := P) w base T rt E i z 1 bytes ty.ht hi hz hsz hby (by rw [ty.hz]; rfl) (by omega) (.slice A n c) n xs hown ⟨b, off, none⟩ m c2 ys (by rw [hr.len]; omega)
      (fun j u hu => by
        have hj : j < ys.length := by
          rcases Nat.lt_or_ge j ys.length with h | h
          · exact h
          · rw [List.getElem?_eq_none h] at hu; cases hu
        rw [Addr.add_lit]
        exact (hc j (by rw [← hr.len]; exact hj)).trans hu) h1 (by simp only [maxLen]; omega) hb hbase
    have hA : (Value.slice A n c).ownBlock = blk A := by cases A <;> rfl
    rw [hA] at h3 h5
    have hv : ∃ A' c', v' = .slice A' (n + m) c' := by
      rcases h2.2 with ⟨e, h0⟩ | ⟨g, cap, cur, e, _⟩
      · exact ⟨none, 0, by rw [e, h0]⟩
      · exact ⟨_, _, e⟩
    obtain ⟨A', c', rfl⟩ := hv
    have hA' : (Value.slice A' (n + m) c').ownBlock = blk A' := by cases A' <;> rfl
    rw [hA'] at h5
    exact ⟨A', n + m, c', w', hrun, rfl, h2, h3, h5⟩

theorem below_of_grown {base : Nat} {w w' : World} {row : Option Nat} (hg : w.grownBy w' row) (hbase : base ≤ w.heap.size) (hr : ∀ k, row = some k → base ≤ k) : Below base w w' :=
  (Below.refl base w).grown hg hbase hr

/-- append onto a row of the call's own, whatever is appended: at the operation -/
theorem wp_app {ops : Array Oper} {rest : List Oper} {o : Oper} {a : Act} {Q : Exit → Act → World → Prop} {T E : TypeId} {z : Value} {bytes : Nat} (ty : Ty1 P T E z bytes) (hgd : o.guard = none) (s x : Operand)
    (ho : o.op = .call { callee := .builtin .append, args := #[s, x], argTypes := #[T, T] })
    {base B : Nat} {A : Option Addr} {n c : Nat} {xs : List Value} {A2 : Option Addr} {m c2 : Nat} {ys : List Value} (hs : a.eval s = .slice A n c) (hx : a.eval x = .slice A2 m c2) (hown : Ow w base E A n c xs)
    (hr : Rd w B A2 m ys) (h1 : ∀ u ∈ ys, u.oneCell' = true) (hb : (n + m) * bytes ≤ 140737488355328) (h63 : n + m ≤ 9223372036854775807) (hbase : base ≤ w.heap.size)
    (h : ∀ A' N c' w', Ow w' base E A' N c' (xs ++ ys) → N ≤ n + m → Below base w w' → Grew w w' A A' → wpList P ops Q rest (a.put o.dst (.slice A' N c')) w') :
    wpList P ops Q (o :: rest) a w := by
  refine wpList_plain hgd fun K hK => ?_
  obtain ⟨A', N, c', w', hrun, e, h2, h3, h4⟩ := run_app (P := P) ty o.type (c2 := c2) hown hr h1 hb h63 hbase
  unfold Oper.wp execOp
  simp only [ho, resolve, invoke, builtin, Sem.run_bind, Sem.run_pure, Result.andThen_ok, List.map_toArray, List.map_cons, List.map_nil, hs, hx, hrun]
  exact hK _ _ (h A' N c' w' h2 (by omega) (below_of_grown h3 hbase fun k hk => (hown.blk_lt k hk).1) ⟨h3, h4.imp id fun e => ⟨_, Nat.le_refl _, e⟩⟩)

/-- the same as a step of a region that draws its order -/
theorem step_app {ops : Array Oper} {o : Oper} {a : Act} {K : Act → World → Prop} {Q : Exit → Act → World → Prop} {F : Prop} {T E : TypeId} {z : Value} {bytes : Nat} (ty : Ty1 P T E z bytes) (hgd : o.guard = none) (s x : Operand)
    (ho : o.op = .call { callee := .builtin .append, args := #[s, x], argTypes := #[T, T] })
    {base B : Nat} {A : Option Addr} {n c : Nat} {xs : List Value} {A2 : Option Addr} {m c2 : Nat} {ys : List Value} (hs : a.eval s = .slice A n c) (hx : a.eval x = .slice A2 m c2) (hown : Ow w base E A n c xs)
    (hr : Rd w B A2 m ys) (h1 : ∀ u ∈ ys, u.oneCell' = true) (hb : (n + m) * bytes ≤ 140737488355328) (h63 : n + m ≤ 9223372036854775807) (hbase : base ≤ w.heap.size)
    (h : ∀ A' N c' w', Ow w' base E A' N c' (xs ++ ys) → N ≤ n + m → Below base w w' → Grew w w' A A' → K (a.put o.dst (.slice A' N c')) w') :
    if Region.wanted o (yielded ops a.tmps) = true then Oper.wp P o a w K Q else F := by
  have hw : Region.wanted o (yielded ops a.tmps) = true := by simp [Region.wanted, hgd]
  rw [if_pos hw]
  obtain ⟨A', N, c', w', hrun, e, h2, h3, h4⟩ := run_app (P := P) ty o.type (c2 := c2) hown hr h1 hb h63 hbase
  unfold Oper.wp execOp
  simp only [ho, resolve, invoke, builtin, Sem.run_bind, Sem.run_pure, Result.andThen_ok, List.map_toArray, List.map_cons, List.map_nil, hs, hx, hrun]
  exact h A' N c' w' h2 (by omega) (below_of_grown h3 hbase fun k hk => (hown.blk_lt k hk).1) ⟨h3, h4.imp id fun e => ⟨_, Nat.le_refl _, e⟩⟩

/-- the one element of 'append(s, x)', which lies in a block of its own -/
theorem Rd.one (w : World) (x : Value) (t : TypeId) : Rd (w.alloc (.cells #[x] t)) (w.heap.size + 1) (some ⟨w.heap.size, 0, none⟩) 1 [x] := by
  refine ⟨rfl, fun _ => ⟨_, 0, rfl, by omega, fun i hi => ?_⟩⟩
  obtain rfl : i = 0 := by omega
  have := cell_one_new w x t 0 x rfl
  simp

theorem Ow.lit (w : World) (E : TypeId) (cs : List Value) {base : Nat} (hb : base ≤ w.heap.size) (hm : cs.length ≤ maxLen) : Ow (w.alloc (.cells cs.toArray E)) base E (some ⟨w.heap.size, 0, none⟩) cs.length cs.length cs := by
  refine ⟨by omega, Or.inr ⟨w.heap.size, _, _, rfl, hb, heap_alloc_new w _, Nat.le_refl _, hm, by simp, by simp⟩⟩

theorem Ow.lit0 (w : World) (E : TypeId) {base : Nat} (hb : base ≤ w.heap.size) : Ow (w.alloc (.cells #[] E)) base E (some ⟨w.heap.size, 0, none⟩) 0 0 [] := Ow.lit w E [] hb (by simp [maxLen])
theorem Ow.lit1 (w : World) (E : TypeId) (x : Value) {base : Nat} (hb : base ≤ w.heap.size) : Ow (w.alloc (.cells #[x] E)) base E (some ⟨w.heap.size, 0, none⟩) 1 1 [x] := Ow.lit w E [x] hb (by simp [maxLen])

/-- make([]T, n, m) -/
theorem wp_make {ops : Array Oper} {rest : List Oper} {o : Oper} {a : Act} {Q : Exit → Act → World → Prop} {T E : TypeId} {z : Value} {bytes : Nat} (ty : Ty1 P T E z bytes) (hgd : o.guard = none) (s x : Operand)
    (ho : o.op = .makeSlice T s x) {kl kc : IntKind} {l m : Int} (hs : a.eval s = .int kl l) (hx : a.eval x = .int kc m) (h0 : 0 ≤ l) (hlm : l ≤ m) (hb : m * bytes ≤ 281474976710656) (h63 : m ≤ 9223372036854775807) {base : Nat} (hbase : base ≤ w.heap.size)
    (h : ∀ (g n c : Nat) w', (n : Int) = l → (c : Int) = m → Ow w' base E (some ⟨g, 0, none⟩) n c (List.replicate n z) → Below base w w' → w.grownBy w' none → g = w.heap.size → wpList P ops Q rest (a.put o.dst (.slice (some ⟨g, 0, none⟩) n c)) w') :
    wpList P ops Q (o :: rest) a w := by
  refine wpList_plain hgd fun K hK => ?_
  obtain ⟨i, hi, hz, hsz, hby⟩ := ty.hi
  obtain ⟨n, rfl⟩ := Int.eq_ofNat_of_zero_le h0
  obtain ⟨c, rfl⟩ := Int.eq_ofNat_of_zero_le (Int.le_trans h0 hlm)
  have hnc : n ≤ c := by omega
  have hb' : (i.bytes : Int) * (c : Int) ≤ 281474976710656 := by rw [hby, Int.mul_comm]; exact hb
  have hr := run_make (P := P) w T E i z ty.ht hi hz kl kc n c (by omega) (by omega) hb' (by omega)
  simp only [Int.toNat_natCast] at hr
  have hown : Ow (w.alloc (.cells (madeCells z.cells (c * i.size)) E)) base E (some ⟨w.heap.size, 0, none⟩) n c (List.replicate n z) := by
    refine ⟨by simp, Or.inr ⟨w.heap.size, c, _, rfl, hbase, heap_alloc_new w _, hnc, by simp only [maxLen]; omega, by rw [size_madeCells, hsz], ?_⟩⟩
    rw [hsz, Nat.mul_one, Nat.mul_one, ty.hz, toList_madeCells_one]
    simp [List.take_replicate, Nat.min_eq_left hnc]
  have hg := World.grownBy_alloc w (.cells (madeCells z.cells (c * i.size)) E) none
  unfold Oper.wp execOp
  simp only [ho, hs, hx, Sem.run_bind, Result.andThen_ok, hr]
  exact hK _ _ (h _ n c _ rfl rfl hown (below_of_grown hg hbase (fun k hk => by cases hk)) hg rfl)

theorem take_splice {α : Type} (L : List α) (n off : Nat) (ys : List α) (m : Nat) (hm : ys.length = m) (h : off + m ≤ n) (hn : n ≤ L.length) :
    List.take n (List.take off L ++ ys ++ List.drop (off + m) L) = List.take off (List.take n L) ++ (ys ++ List.drop (off + ys.length) (List.take n L)) := by
  have e1 : List.take off L ++ ys ++ List.drop (off + m) L = (List.take off L ++ ys) ++ List.drop (off + m) L := rfl
  have e2 : (List.take off L ++ ys).length = off + m := by simp; omega
  rw [e1, List.take_append, e2, List.take_of_length_le (by omega), List.take_take, Nat.min_eq_left (by omega), hm, List.drop_take, List.append_assoc]

/-- copy(dst, src) onto a row of the call's own, from place off on -/
theorem run_copy_ow {T E : TypeId} {z : Value} {bytes : Nat} (ty : Ty1 P T E z bytes) (rt : TypeId) {base B : Nat} {g n c off : Nat} {xs : List Value} (hown : Ow w base E (some ⟨g, 0, none⟩) n c xs)
    {A2 : Option Addr} {m c2 : Nat} {ys : List Value} (hr : Rd w B A2 m ys) (h1 : ∀ u ∈ ys, u.oneCell' = true) (A : Option Addr) (d dc : Nat) (hA : 0 < d → A = some ⟨g, off, none⟩) (hoff : off + d ≤ n) (hm : m ≤ d) :
    ∃ w', (Builtin.copy_ #[T, T] rt #[.slice A d dc, .slice A2 m c2]).run P w = .ok (goInt m) w' ∧ Ow w' base E (some ⟨g, 0, none⟩) n c (splice xs off ys) ∧ w.grownBy w' (some g) := by
  obtain ⟨i, hi, hz, hsz, hby⟩ := ty.hi
  have hs : (P.info? E).map (·.size) = some 1 := by simp [hi, hsz]
  rcases Nat.eq_zero_or_pos m with rfl | hmp
  · have hn : ys = [] := List.eq_nil_of_length_eq_zero hr.len
    subst hn
    exact ⟨w, run_copy_none w T T rt E A A2 d dc 0 c2 ty.ht hs (by simp), by simpa [splice] using hown, ⟨rfl, rfl, rfl, Nat.le_refl _, fun _ _ _ => rfl⟩⟩
  · obtain ⟨b, o2, rfl, hlt, hc⟩ := hr.addr hmp
    obtain rfl := hA (by omega)
    rcases hown.2 with ⟨e, _⟩ | ⟨g', cap, cur, e, hB, hg, hn1, hn2, hcs, ht⟩
    · cases e
    · injection e with e1 _ e2
      injection e1 with e1
      injection e1 with e1
      subst e1
      subst e2
      have hlen := hown.len
      have hl2 := hr.len
      have hrun := run_copy_row (P := P) w T T rt E g off d dc ⟨b, o2, none⟩ m c2 cur E ys ty.ht hs hg (by rw [hl2]; exact (Nat.min_eq_left hm).symm)
        (fun j v hj => by
          have hjl : j < ys.length := by
            rcases Nat.lt_or_ge j ys.length with h | h
            · exact h
            · rw [List.getElem?_eq_none h] at hj; cases hj
          rw [Addr.add_lit]
          exact (hc j (by omega)).trans hj) (by omega) h1
      rw [hl2] at hrun
      refine ⟨_, hrun, ⟨?_, Or.inr ⟨g, c, _, rfl, hB, setRow_heap w g cur _ E _ hg, hn1, hn2, ?_, ?_⟩⟩, ⟨rfl, rfl, rfl, by simp, fun k _ hk => setRow_other w g k _ (fun e => hk (by rw [e]))⟩⟩
      · rw [length_splice _ _ _ (by omega)]; omega
      · simp; omega
      · rw [Nat.mul_one] at ht
        rw [← ht]
        simp only [splice, Nat.mul_one]
        have hcl : cur.toList.length = cur.size := by simp
        exact (take_splice cur.toList n off ys m hl2 (by omega) (by omega))

theorem wp_copy {ops : Array Oper} {rest : List Oper} {o : Oper} {a : Act} {Q : Exit → Act → World → Prop} {T E : TypeId} {z : Value} {bytes : Nat} (ty : Ty1 P T E z bytes) (hgd : o.guard = none) (x y : Operand)
    (ho : o.op = .call { callee := .builtin .copy, args := #[x, y], argTypes := #[T, T] }) {base B : Nat} {g n c off : Nat} {xs : List Value} (hown : Ow w base E (some ⟨g, 0, none⟩) n c xs)
    {A2 : Option Addr} {m c2 : Nat} {ys : List Value} (hr : Rd w B A2 m ys) (h1 : ∀ u ∈ ys, u.oneCell' = true) {A : Option Addr} {d dc : Nat} (hx : a.eval x = .slice A d dc) (hy : a.eval y = .slice A2 m c2)
    (hA : 0 < d → A = some ⟨g, off, none⟩) (hoff : off + d ≤ n) (hm : m ≤ d) (hbase : base ≤ w.heap.size)
    (h : ∀ w', Ow w' base E (some ⟨g, 0, none⟩) n c (splice xs off ys) → Below base w w' → w.grownBy w' (some g) → wpList P ops Q rest (a.put o.dst (goInt m)) w') :
    wpList P ops Q (o :: rest) a w := by
  refine wpList_plain hgd fun K hK => ?_
  obtain ⟨w', hrun, h2, h3⟩ := run_copy_ow (P := P) ty o.type hown (c2 := c2) hr h1 A d dc hA hoff hm
  unfold Oper.wp execOp
  simp only [ho, resolve, invoke, builtin, Sem.run_bind, Sem.run_pure, Result.andThen_ok, List.map_toArray, List.map_cons, List.map_nil, hx, hy, hrun]
  exact hK _ _ (h w' h2 (below_of_grown h3 hbase fun k hk => by obtain rfl := Option.some.inj hk; exact (hown.blk_lt _ rfl).1) h3)

/-- the one run of slicing: 's[l:h]' -/
theorem sizeOf_one {T E : TypeId} {z : Value} {bytes : Nat} (ty : Ty1 P T E z bytes) : P.underlying T = some (.slice (P.elem T)) ∧ (sizeOf (P.elem T)).run P w = .ok 1 w := by
  obtain ⟨i, hi, hz, hsz, hby⟩ := ty.hi
  have he : P.elem T = E := by simp [Program.elem, ty.ht]
  rw [he]
  exact ⟨ty.ht, by simp [sizeOf, typeInfo, hi, hsz]⟩

theorem cut_value (A : Option Addr) (l h c : Nat) (hlh : l ≤ h) (hc : h ≤ c) : ∃ A', sliced A l h c 1 = .slice A' (h - l) (c - l) ∧ (0 < h - l → A' = A.map (·.add l)) :=
  ⟨_, rfl, fun hp => by rw [if_neg (by omega), Nat.mul_one]⟩

/-- 's[l:]' -/
theorem wp_cut_l {ops : Array Oper} {rest : List Oper} {o : Oper} {a : Act} {Q : Exit → Act → World → Prop} {T E : TypeId} {z : Value} {bytes : Nat} (ty : Ty1 P T E z bytes) (hgd : o.guard = none) (x y : Operand)
    (ho : o.op = .slice T x (some y) none none) {kl : IntKind} {l : Int} {B : Nat} {A : Option Addr} {n c : Nat} {xs : List Value} (hx : a.eval x = .slice A n c) (hy : a.eval y = .int kl l)
    (hr : Rd w B A n xs) (h0 : 0 ≤ l) (h1 : l ≤ n) (hc : n ≤ c)
    (h : ∀ (A' : Option Addr) (n' c' : Nat), (n' : Int) = n - l → (c' : Int) = c - l → Rd w B A' n' (xs.drop l.toNat) → (0 < n' → A' = A.map (·.add l.toNat)) → wpList P ops Q rest (a.put o.dst (.slice A' n' c')) w) :
    wpList P ops Q (o :: rest) a w := by
  refine wpList_plain hgd fun K hK => ?_
  obtain ⟨ht, hs⟩ := sizeOf_one (w := w) ty
  have hrun := run_slice_l (P := P) (w := w) T A n c ht kl l h0 h1
  rw [hs, ← run_sliceAt_slice _ T _ _ _ _ ht] at hrun
  simp only [Result.andThen_ok] at hrun
  obtain ⟨A', e, hA⟩ := cut_value A l.toNat n c (by omega) hc
  rw [e] at hrun
  have hr' := hr.cut (l := l.toNat) (m := n - l.toNat) (by omega) (A' := A') hA
  rw [List.take_of_length_le (by rw [List.length_drop, hr.len]; omega)] at hr'
  unfold Oper.wp execOp
  simp only [ho, hx, hy, Option.map_some, Option.map_none, Sem.run_bind, Sem.run_pure, Result.andThen_ok, hrun]
  exact hK _ _ (h A' _ _ (by omega) (by omega) hr' hA)

/-- 's[:h]' -/
theorem wp_cut_h {ops : Array Oper} {rest : List Oper} {o : Oper} {a : Act} {Q : Exit → Act → World → Prop} {T E : TypeId} {z : Value} {bytes : Nat} (ty : Ty1 P T E z bytes) (hgd : o.guard = none) (x y : Operand)
    (ho : o.op = .slice T x none (some y) none) {kl : IntKind} {l : Int} {B : Nat} {A : Option Addr} {n c : Nat} {xs : List Value} (hx : a.eval x = .slice A n c) (hy : a.eval y = .int kl l)
    (hr : Rd w B A n xs) (h0 : 0 ≤ l) (h1 : l ≤ n) (hc : n ≤ c)
    (h : ∀ (A' : Option Addr) (n' : Nat), (n' : Int) = l → Rd w B A' n' (xs.take l.toNat) → wpList P ops Q rest (a.put o.dst (.slice A' n' c)) w) :
    wpList P ops Q (o :: rest) a w := by
  refine wpList_plain hgd fun K hK => ?_
  obtain ⟨ht, hs⟩ := sizeOf_one (w := w) ty
  have hrun := run_slice_h (P := P) (w := w) T A n c ht kl l h0 (by omega)
  rw [hs, ← run_sliceAt_slice _ T _ _ _ _ ht] at hrun
  simp only [Result.andThen_ok] at hrun
  obtain ⟨A', e, hA⟩ := cut_value A 0 l.toNat c (by omega) (by omega)
  rw [e] at hrun
  have hr' := hr.cut (l := 0) (m := l.toNat) (by omega) (A' := A') hA
  rw [List.drop_zero] at hr'
  unfold Oper.wp execOp
  simp only [ho, hx, hy, Option.map_some, Option.map_none, Sem.run_bind, Sem.run_pure, Result.andThen_ok, hrun, Nat.sub_zero]
  exact hK _ _ (h A' _ (by omega) hr')

/-- 's[l:h]' -/
theorem wp_cut_lh {ops : Array Oper} {rest : List Oper} {o : Oper} {a : Act} {Q : Exit → Act → World → Prop} {T E : TypeId} {z : Value} {bytes : Nat} (ty : Ty1 P T E z bytes) (hgd : o.guard = none) (x y y2 : Operand)
    (ho : o.op = .slice T x (some y) (some y2) none) {kl kh : IntKind} {l m : Int} {B : Nat} {A : Option Addr} {n c : Nat} {xs : List Value} (hx : a.eval x = .slice A n c) (hy : a.eval y = .int kl l) (hy2 : a.eval y2 = .int kh m)
    (hr : Rd w B A n xs) (h0 : 0 ≤ l) (h1 : l ≤ m) (h2 : m ≤ n) (hc : n ≤ c)
    (h : ∀ (A' : Option Addr) (n' c' : Nat), (n' : Int) = m - l → (c' : Int) = c - l → Rd w B A' n' ((xs.drop l.toNat).take n') → wpList P ops Q rest (a.put o.dst (.slice A' n' c')) w) :
    wpList P ops Q (o :: rest) a w := by
  refine wpList_plain hgd fun K hK => ?_
  obtain ⟨ht, hs⟩ := sizeOf_one (w := w) ty
  have hrun := run_slice_lh (P := P) (w := w) T A n c ht kl kh l m h0 h1 (by omega)
  rw [hs, ← run_sliceAt_slice _ T _ _ _ _ ht] at hrun
  simp only [Result.andThen_ok] at hrun
  obtain ⟨A', e, hA⟩ := cut_value A l.toNat m.toNat c (by omega) (by omega)
  rw [e] at hrun
  have hr' := hr.cut (l := l.toNat) (m := m.toNat - l.toNat) (by omega) (A' := A') hA
  unfold Oper.wp execOp
  simp only [ho, hx, hy, hy2, Option.map_some, Option.map_none, Sem.run_bind, Sem.run_pure, Result.andThen_ok, hrun]
  exact hK _ _ (h A' _ _ (by omega) (by omega) hr')

/-- bytes as a string -/
def bs (l : List UInt8) : ByteArray := ⟨l.toArray⟩
theorem bs_inj {l r : List UInt8} (h : bs l = bs r) : l = r := by
  have := congrArg (fun b : ByteArray => b.data.toList) h
  simpa [bs] using this
theorem run_string {src dst e : TypeId} (hs : P.underlying src = some (.slice e)) (he : P.underlying e = some (.int .u8)) (hd : P.underlying dst = some .string) {B : Nat} {A : Option Addr} {n : Nat} {l : List UInt8} (hr : Rd w B A n (bv l)) (c : Nat) :
    (convert src dst (.slice A n c)).run P w = .ok (.string (bs l)) w := by
  have hlen : n = l.length := by rw [← hr.len, bv_len]
  cases A with
  | none =>
    have h0 : n = 0 := by
      rcases Nat.eq_zero_or_pos n with h | h
      · exact h
      · obtain ⟨b, off, e, _⟩ := hr.addr h; cases e
    subst h0
    have hl : l = [] := List.eq_nil_of_length_eq_zero hlen.symm
    subst hl
    exact run_convert_bytes_nil w src e hs he 0 c dst hd
  | some ad =>
    subst hlen
    refine run_convert_bytes_back w src dst e ad c l hs he hd fun j hj => ?_
    obtain ⟨b, off, e, _, hc⟩ := hr.addr (by omega)
    obtain rfl := Option.some.inj e
    rw [Addr.add_lit, hc j hj, bv_at l j hj]

/-- a store into a row of the call's own -/
theorem Ow.set {base : Nat} {E : TypeId} {g n c : Nat} {xs : List Value} (h : Ow w base E (some ⟨g, 0, none⟩) n c xs) (j : Nat) (u : Value) (_hj : j < n) :
    Ow (w.setCell ⟨g, j, none⟩ u) base E (some ⟨g, 0, none⟩) n c (xs.set j u) ∧ w.grownBy (w.setCell ⟨g, j, none⟩ u) (some g) ∧ w.cell? ⟨g, j, none⟩ = xs[j]? ∧ w.frozen? ⟨g, j, none⟩ = false :=
  ⟨by
    exact (World.ownsRow.stored h j u).1, (World.ownsRow.stored h j u).2, World.ownsRow.cellAt h j (by omega), World.ownsRow.frozenAt h j⟩
theorem Ow.at0 {base : Nat} {E : TypeId} {A : Option Addr} {n c : Nat} {xs : List Value} (h : Ow w base E A n c xs) (hn : 0 < n) : ∃ g, A = some ⟨g, 0, none⟩ ∧ base ≤ g ∧ g < w.heap.size := by
  rcases h.2 with ⟨_, h0⟩ | ⟨g, cap, cur, e, hb, _⟩
  · omega
  · injection e with e1
    subst e1
    have := h.blk_lt g rfl
    exact ⟨g, rfl, hb, this.2⟩
end ops


/-- out of what the reading of an argument gives: what the slice shows -/
theorem cell_lt {w : World} {b o : Nat} {u : Value} (h : w.cell? ⟨b, o, none⟩ = some u) : b < w.heap.size := by
  rcases Nat.lt_or_ge b w.heap.size with hlt | hge
  · exact hlt
  · unfold World.cell? at h
    simp [Array.getElem?_eq_none hge] at h
theorem byte_wf {n : Int} (h : (Lit.int .u8 n).wf = true) : n = ((UInt8.ofNat n.toNat).toNat : Int) := by
  have hx : 0 ≤ n ∧ n ≤ 255 := by simpa [Lit.wf, IntKind.min, IntKind.max, IntKind.signed, IntKind.bits] using h
  rw [UInt8.toNat_ofNat']
  omega
theorem rd_cells {w : World} {a : Addr} {len cap : Nat} {zs : List Int} {k : IntKind} (hl : len ≤ cap) (hz : zs.length = cap) (hc : ∀ i, i < zs.length → w.cell? (a.add i) = some (.int k (zs.getD i 0))) :
    Rd w w.heap.size (some a) len ((zs.take len).map (Value.int k)) := by
  refine ⟨by simp; omega, fun hn => ?_⟩
  obtain ⟨b, off, spot⟩ := a
  have h0 := hc 0 (by omega)
  have hs : spot = none := by simpa [Addr.add] using World.cell?_spot h0
  subst hs
  refine ⟨b, off, rfl, cell_lt (o := off) (by simpa [Addr.add] using h0), fun i hi => ?_⟩
  have := hc i (by omega)
  rw [Addr.add_lit] at this
  rw [this, List.getElem?_map, List.getElem?_take_of_lt hi]
  have hlt : i < zs.length := by omega
  simp [List.getD, List.getElem?_eq_getElem hlt]
theorem rd_bytes {w : World} {a : Addr} {len cap : Nat} {zs : List Int} (hl : len ≤ cap) (hz : zs.length = cap) (hc : ∀ i, i < zs.length → w.cell? (a.add i) = some (.int .u8 (zs.getD i 0))) (hw : ∀ n ∈ zs, (Lit.int .u8 n).wf = true) :
    ∃ l : List UInt8, Rd w w.heap.size (some a) len (bv l) := by
  refine ⟨(zs.take len).map fun z => UInt8.ofNat z.toNat, ?_⟩
  have h := rd_cells hl hz hc
  have e : bv ((zs.take len).map fun z => UInt8.ofNat z.toNat) = (zs.take len).map (Value.int .u8) := by
    unfold bv
    rw [List.map_map]
    apply List.map_congr_left
    intro z hz
    simp only [Function.comp]
    rw [← byte_wf (hw z (List.mem_of_mem_take hz))]
  rw [e]
  exact h
theorem int_wf {n : Int} (h : (Lit.int .i64 n).wf = true) : -9223372036854775808 ≤ n ∧ n ≤ 9223372036854775807 := by
  simpa [Lit.wf, IntKind.min, IntKind.max, IntKind.signed, IntKind.bits] using h
theorem rd_ints {w : World} {a : Addr} {len cap : Nat} {zs : List Int} (hl : len ≤ cap) (hz : zs.length = cap) (hc : ∀ i, i < zs.length → w.cell? (a.add i) = some (.int .i64 (zs.getD i 0))) (hw : ∀ n ∈ zs, (Lit.int .i64 n).wf = true) :
    ∃ l : List Int, Rd w w.heap.size (some a) len (iv l) ∧ ∀ x ∈ l, -9223372036854775808 ≤ x ∧ x ≤ 9223372036854775807 :=
  ⟨zs.take len, rd_cells hl hz hc, fun x hx => int_wf (hw x (List.mem_of_mem_take hx))⟩

/-- what a write to the first cell of a new row wants and leaves -/
theorem Ow.head {w : World} {base : Nat} {E : TypeId} {A : Option Addr} {n c : Nat} {l : List UInt8} (h : Ow w base E A n c (bv l)) (hn : 0 < l.length) :
    ∃ g, A = some ⟨g, 0, none⟩ ∧ base ≤ g ∧ g < w.heap.size ∧ (∃ b : UInt8, w.cell? ⟨g, 0, none⟩ = some (.int .u8 (b.toNat : Int))) ∧ w.frozen? ⟨g, 0, none⟩ = false ∧ 0 < n ∧ ∀ u, Below base w (w.setCell ⟨g, 0, none⟩ u) := by
  have hl := h.len
  rw [bv_len] at hl
  obtain ⟨g, rfl, hb, hlt⟩ := h.at0 (by omega)
  obtain ⟨h1, h2, h3, h4⟩ := h.set 0 (.int .u8 0) (by omega)
  obtain ⟨b, hbv⟩ := bv_head hn
  exact ⟨g, rfl, hb, hlt, ⟨b, by rw [h3, hbv]⟩, h4, by omega, fun u => (Below.refl _ _).setCell hb u⟩
end Go.Proofs.YtbcgnacfhpahkaaDoor.Mem
