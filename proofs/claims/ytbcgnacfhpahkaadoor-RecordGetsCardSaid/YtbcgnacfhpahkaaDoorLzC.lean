/- lz: a window: its map of beginnings, its cells. -/
import Derived.Test.YtbcgnacfhpahkaaDoorProg
import Derived.Test.YtbcgnacfhpahkaaDoorMem
import Derived.Test.YtbcgnacfhpahkaaDoorLzMath
import Derived.Test.YtbcgnacfhpahkaaDoorLoA
import Derived.IntWalk
import Derived.Maps.OwnSet
import Derived.Maps.OwnOps
import Derived.DeepKeys4
import Derived.Deep.MidRow
import Derived.ProofKit
namespace Go.Proofs.YtbcgnacfhpahkaaDoor.lz
open Go.RowKit Mem OM LM oct
open Go.Maps (Keyed)
set_option linter.unusedVariables false
variable {w w' : World}
/-- what the world keeps, but for some blocks -/
structure Kept (w w' : World) (bad : Nat → Prop) : Prop where
  os : w'.os = w.os
  tape : w'.tape = w.tape
  output : w'.output = w.output
  size : w.heap.size ≤ w'.heap.size
  block : ∀ k, k < w.heap.size → ¬ bad k → w'.heap[k]? = w.heap[k]?
theorem Kept.refl (w : World) (bad : Nat → Prop) : Kept w w bad := ⟨rfl, rfl, rfl, Nat.le_refl _, fun _ _ _ => rfl⟩
theorem Kept.trans {w w1 w2 : World} {bad bad' : Nat → Prop} (h : Kept w w1 bad) (k : Kept w1 w2 bad') (hb : ∀ i, i < w.heap.size → bad' i → bad i) : Kept w w2 bad :=
  ⟨k.os.trans h.os, k.tape.trans h.tape, k.output.trans h.output, Nat.le_trans h.size k.size, fun i hi hn => (k.block i (Nat.lt_of_lt_of_le hi h.size) (fun e => hn (hb i hi e))).trans (h.block i hi hn)⟩
theorem Kept.of {row : Option Nat} (h : w.grownBy w' row) : Kept w w' (fun k => row = some k) := ⟨h.os, h.tape, h.output, h.size, fun i hi hn => h.block i hi (fun e => hn e.symm)⟩
theorem Kept.set (w : World) (c o : Nat) (v : Value) : Kept w (w.setCell ⟨c, o, none⟩ v) (fun k => k = c) := ⟨rfl, rfl, rfl, by rw [World.size_setCell]; exact Nat.le_refl _, fun i hi hn => Below.heap_setCell _ _ _ _ hn⟩
theorem Kept.alloc (w : World) (o : Obj) (bad : Nat → Prop) : Kept w (w.alloc o) bad := ⟨rfl, rfl, rfl, by simp, fun i hi hn => Below.heap_alloc w o i hi⟩
theorem Kept.drew (w : World) (bad : Nat → Prop) : Kept w w.drew bad := ⟨rfl, rfl, rfl, Nat.le_refl _, fun i hi hn => rfl⟩
theorem Kept.drewN (w : World) (n : Nat) (bad : Nat → Prop) : Kept w (w.drewN n) bad := ⟨rfl, rfl, rfl, Nat.le_refl _, fun i hi hn => rfl⟩
theorem Kept.cell {bad : Nat → Prop} (h : Kept w w' bad) {a : Addr} (hl : a.block < w.heap.size) (hb : ¬ bad a.block) : w'.cell? a = w.cell? a := World.cell?_of_block (w := w) (h.block a.block hl hb)
theorem Kept.frozen {bad : Nat → Prop} (h : Kept w w' bad) {a : Addr} (hl : a.block < w.heap.size) (hb : ¬ bad a.block) : w'.frozen? a = w.frozen? a := World.frozen?_of_block (w := w) (h.block a.block hl hb)
theorem Kept.below {bad : Nat → Prop} {B : Nat} {w0 : World} (h : Below B w0 w) (k : Kept w w' bad) (hB : B ≤ w.heap.size) (hb : ∀ i, i < B → ¬ bad i) : Below B w0 w' :=
  h.trans ⟨k.os, k.tape, k.output, k.size, fun i hi => k.block i (by omega) (hb i hi)⟩
theorem Kept.ofBelow {B : Nat} (h : Below B w w') : Kept w w' (fun k => B ≤ k) := ⟨h.os, h.tape, h.output, h.size, fun i hi hn => h.block i (by omega)⟩
theorem Kept.more {bad bad' : Nat → Prop} (h : Kept w w' bad) (hb : ∀ i, i < w.heap.size → bad i → bad' i) : Kept w w' bad' := ⟨h.os, h.tape, h.output, h.size, fun i hi hn => h.block i hi (fun e => hn (hb i hi e))⟩
theorem Kept.rd {bad : Nat → Prop} {B n : Nat} {A : Option Addr} {xs : List Value} (h : Kept w w' bad) (hr : Rd w B A n xs) (hB : B ≤ w.heap.size) (hne : ∀ k, blk A = some k → k < B → ¬ bad k) : Rd w' B A n xs := by
  refine ⟨hr.len, fun hn => ?_⟩
  obtain ⟨c, off, rfl, hc, hcell⟩ := hr.addr hn
  have hnc := hne c rfl hc
  refine ⟨c, off, rfl, hc, fun k hk => ?_⟩
  rw [h.cell (a := ⟨c, off + k, none⟩) (show c < w.heap.size by omega) hnc]
  exact hcell k hk
theorem ne_off {b i j : Nat} (h : i ≠ j) : (⟨b, i, none⟩ : Addr) ≠ ⟨b, j, none⟩ := fun e => h (by injection e)
theorem ne_blk {b c i j : Nat} (h : b ≠ c) : (⟨b, i, none⟩ : Addr) ≠ ⟨c, j, none⟩ := fun e => h (by injection e)
theorem frozen_set (w : World) (a p : Addr) (v : Value) : (w.setCell a v).frozen? p = w.frozen? p := World.frozen?_setCell _ _ _ _
theorem laidOut : laidOutB Tryd.prog = true := by kernel_rfl
theorem startKeyed : Keyed Tryd.prog 119 := Keyed.of_law (deep_law_laid laidOut (m := 3) (by omega) (by decide +kernel) (by decide +kernel) (by decide +kernel))
theorem zero_int (w : World) : (zeroValue 3).run Tryd.prog w = .ok (.int .i64 0) w := by kernel_rfl
theorem mapM_some {α β : Type} {f : α → Option β} {g : α → β} : ∀ l : List α, (∀ i ∈ l, f i = some (g i)) → l.mapM f = some (l.map g)
  | [], _ => rfl
  | x :: l, h => by
    rw [List.mapM_cons, h x (by simp), mapM_some l (fun i hi => h i (by simp [hi]))]
    rfl
/-- a beginning as a map's key -/
def kl (s : List UInt8) : Lit := .string (keyBytes ((List.range 3).map fun i => [Lit.int .u8 ((s.getD i 0).toNat : Int)]).flatten)
theorem key_of (s : List UInt8) (hs : s.length = 3) : keyOf Tryd.prog 119 (.agg (bv s).toArray) = some (kl s) := by
  have h1 : Tryd.prog.keyType 119 = true := by kernel_rfl
  have h2 : Tryd.prog.cellsOf 119 = 3 := by kernel_rfl
  have h3 : Tryd.prog.cellsOf 5 = 1 := by kernel_rfl
  have hf : (Value.agg (bv s).toArray).formed Tryd.prog 119 = true := by
    unfold Value.formed
    rw [Tryd.underlying119]
    simp [h2, bv_len, hs]
  unfold keyOf
  rw [Tryd.underlying119]
  simp only [h1, hf, Bool.and_self, if_true]
  have hk : Tryd.prog.keyLits (Tryd.prog.types.size + 1) 119 (Value.agg (bv s).toArray).cells.toList = some ((List.range 3).map fun i => [Lit.int .u8 ((s.getD i 0).toNat : Int)]).flatten := by
    unfold Program.keyLits
    rw [Tryd.underlying119]
    simp only [Value.cells, h2, bv_len, hs, if_true]
    rw [mapM_some (g := fun i => [Lit.int .u8 ((s.getD i 0).toNat : Int)])]
    · rfl
    · intro i hi
      have hi := List.mem_range.1 hi
      have hl : i < s.length := by omega
      rw [h3, Nat.mul_one]
      have e : ((bv s).drop i).take 1 = [.int .u8 ((s[i]).toNat : Int)] := by
        rw [List.take_one, List.head?_drop, bv_at s i hl]; rfl
      have hsz : Tryd.prog.types.size = (Tryd.prog.types.size - 1) + 1 := by
        have : 0 < Tryd.prog.types.size := by decide +kernel
        omega
      rw [e, hsz]
      unfold Program.keyLits
      rw [Tryd.underlying5]
      have hlt := (s[i]).toNat_lt
      have hg : s.getD i 0 = s[i] := by simp [hl]
      rw [hg]
      simp [Lit.wf, IntKind.min, IntKind.max, IntKind.signed, IntKind.bits]
      omega
  rw [hk]
  rfl
theorem kl_inj {s t : List UInt8} (hs : s.length = 3) (ht : t.length = 3) (h : kl s = kl t) : s = t := by
  have := startKeyed.inj (key_of s hs) (h ▸ key_of t ht)
  injection this with e
  exact bv_inj (by simpa using congrArg Array.toList e)
theorem kl_lit {s : List UInt8} (hs : s.length = 3) : WideAt.IsKeyLit (kl s) := startKeyed.key (key_of s hs)
abbrev DD := DataW Unit
def num (n : Nat) : DD := .lit (.int .i64 (n : Nat))
theorem Kept.ow {bad : Nat → Prop} {base : Nat} {E : TypeId} {A : Option Addr} {n k : Nat} {xs : List Value} (hk : Kept w w' bad) (h : Ow w base E A n k xs) (hb : ∀ i, blk A = some i → ¬ bad i) : Ow w' base E A n k xs := by
  refine ⟨h.1, ?_⟩
  rcases h.2 with h0 | ⟨g, cap, cur, hv, hbase, hg, rest⟩
  · exact .inl h0
  · refine .inr ⟨g, cap, cur, hv, hbase, ?_, rest⟩
    have hlt : g < w.heap.size := by
      apply Nat.lt_of_not_le
      intro hle
      rw [Array.getElem?_eq_none hle] at hg
      cases hg
    have hA : blk A = some g := by
      injection hv with e1 e2 e3
      rw [e1]; rfl
    rw [hk.block g hlt (hb g hA)]
    exact hg
theorem num_inj {a b : Nat} (h : num a = num b) : a = b := by
  simp only [num, DataW.lit.injEq, Lit.int.injEq, true_and] at h
  omega
theorem below_drewN {B : Nat} {w w1 : World} (h : Below B w w1) (n : Nat) : Below B w (w1.drewN n) := ⟨h.os, h.tape, h.output, h.size, h.block⟩
theorem below_drew {B : Nat} {w w1 : World} (h : Below B w w1) : Below B w w1.drew := ⟨h.os, h.tape, h.output, h.size, h.block⟩
/-- in a region that draws its order and writes nothing: a load of many cells, a look-up in a map -/
theorem q_load {P : Program} {ops : Array Oper} {C : World → Prop} {Q : Act → Prop} {o : Oper} {rest : List Oper} {a : Act} (hgd : o.guard = none) (ty : TypeId) (x : Operand) (ho : o.op = .load ty x)
    (b off : Nat) (hx : a.eval x = .pointer (some ⟨b, off, none⟩)) (cs : List Value) (d : TypeDesc) (hc : ∀ w, C w → w.rangeAt b off cs) (hu : P.underlying ty = some d) (hd : d.isRow = true) (hi : (P.info? ty).map (·.size) = some cs.length)
    (h : wpQuiet P ops C Q rest (a.put o.dst (.agg cs.toArray))) : wpQuiet P ops C Q (o :: rest) a := by
  have hw : Region.wanted o (yielded ops a.tmps) = true := by simp [Region.wanted, hgd]
  unfold wpQuiet
  rw [if_pos hw]
  refine ⟨_, fun w hw' => ?_, h⟩
  unfold Oper.quietAt execOp
  simp only [ho, hx, Instr.loadAt, Instr.sureAddr, Sem.run_bind, Sem.run_pure, Result.andThen_ok, run_loadVar_mid w b off ty cs d (hc w hw') hu hd hi]
  exact ⟨rfl, rfl⟩
theorem q_look {P : Program} {ops : Array Oper} {C : World → Prop} {Q : Act → Prop} {o : Oper} {rest : List Oper} {a : Act} (hgd : o.guard = none) (t : TypeId) (m x : Operand) (ok : Bool) (ho : o.op = .lookup t m x ok)
    (mv xv v : Value) (hm : a.eval m = mv) (hx : a.eval x = xv) (hc : ∀ w, C w → (Instr.lookup t mv xv ok).run P w = .ok v w)
    (h : wpQuiet P ops C Q rest (a.put o.dst v)) : wpQuiet P ops C Q (o :: rest) a := by
  have hw : Region.wanted o (yielded ops a.tmps) = true := by simp [Region.wanted, hgd]
  unfold wpQuiet
  rw [if_pos hw]
  refine ⟨_, fun w hw' => ?_, h⟩
  unfold Oper.quietAt execOp
  simp only [ho, hm, hx, Sem.run_bind, Result.andThen_ok, hc w hw']
  exact ⟨rfl, rfl⟩
/-- in a region that draws its order, ahead of its last store: a load of many cells -/
theorem s_load {P : Program} {ops : Array Oper} {w : World} {Q : Act → Prop} {o : Oper} {rest : List Oper} {a : Act} (hgd : o.guard = none) (ty : TypeId) (x : Operand) (ho : o.op = .load ty x)
    (b off : Nat) (hx : a.eval x = .pointer (some ⟨b, off, none⟩)) (cs : List Value) (d : TypeDesc) (hc : w.rangeAt b off cs) (hu : P.underlying ty = some d) (hd : d.isRow = true) (hi : (P.info? ty).map (·.size) = some cs.length)
    (h : wpStill P ops w Q rest (a.put o.dst (.agg cs.toArray))) : wpStill P ops w Q (o :: rest) a := by
  have hw : Region.wanted o (yielded ops a.tmps) = true := by simp [Region.wanted, hgd]
  unfold wpStill
  rw [if_pos hw]
  unfold Oper.still execOp
  simp only [ho, hx, Instr.loadAt, Instr.sureAddr, Sem.run_bind, Sem.run_pure, Result.andThen_ok, run_loadVar_mid w b off ty cs d hc hu hd hi]
  exact ⟨rfl, h⟩
theorem Kept.or {w w1 w2 : World} {bad bad' : Nat → Prop} (h : Kept w w1 bad) (k : Kept w1 w2 bad') : Kept w w2 (fun i => bad i ∨ bad' i) :=
  (h.more (fun i _ e => Or.inl e)).trans (k.more (fun i _ e => Or.inr e)) (fun _ _ e => e)
theorem info_start : (Tryd.prog.info? 119).map (·.size) = some 3 := by kernel_rfl
/-- what a datum says: the numbers of these beginnings -/
structure MapF (D : DD) (f : List UInt8 → Option Nat) : Prop where
  tidy : Maps.Tidy D
  hit : ∀ s n, s.length = 3 → f s = some n → D.atKey (kl s) (num 0) = num n ∧ Maps.has D (kl s) = true
  miss : ∀ s, s.length = 3 → f s = none → D.atKey (kl s) (num 0) = num 0 ∧ Maps.has D (kl s) = false
def MapW (w : World) (mb : Nat) (f : List UInt8 → Option Nat) (K : Nat) : Prop := ∃ D : DD, w.ownsMap Tryd.prog 119 (plainElem Tryd.prog 3) mb K D ∧ MapF D f
theorem Kept.map {bad : Nat → Prop} {mb K : Nat} {f : List UInt8 → Option Nat} (k : Kept w w' bad) (h : MapW w mb f K) (hb : ¬ bad mb) : MapW w' mb f K := by
  obtain ⟨D, h1, h2⟩ := h
  have hlt := h1.lt
  obtain ⟨es, clock, he, r⟩ := h1
  exact ⟨D, ⟨es, clock, (k.block mb hlt hb).trans he, r⟩, h2⟩
def updF (f : List UInt8 → Option Nat) (s : List UInt8) (v : Option Nat) : List UInt8 → Option Nat := fun t => if t = s then v else f t
theorem MapF.put {D : DD} {f : List UInt8 → Option Nat} {s : List UInt8} (h : MapF D f) (hs : s.length = 3) (n : Nat) : MapF (D.put (kl s) (num n)) (updF f s (some n)) := by
  refine ⟨h.tidy.put (kl_lit hs) _, fun t m ht hm => ?_, fun t ht hm => ?_⟩
  · unfold updF at hm
    split at hm
    · rename_i e
      subst e
      injection hm with hm
      subst hm
      exact ⟨Maps.atKey_put_same h.tidy.isMap (kl_lit hs) _ _, Maps.has_put_same h.tidy.isMap (kl_lit hs) _⟩
    · rename_i e
      have hk : kl t ≠ kl s := fun e1 => e (kl_inj ht hs e1)
      rw [Maps.atKey_put_other hk, Maps.has_put_other hk]
      exact h.hit t m ht hm
  · unfold updF at hm
    split at hm
    · cases hm
    · rename_i e
      have hk : kl t ≠ kl s := fun e1 => e (kl_inj ht hs e1)
      rw [Maps.atKey_put_other hk, Maps.has_put_other hk]
      exact h.miss t ht hm
theorem MapF.del {D : DD} {f : List UInt8 → Option Nat} {s : List UInt8} (h : MapF D f) (hs : s.length = 3) : MapF (D.del (kl s)) (updF f s none) := by
  refine ⟨h.tidy.del _, fun t m ht hm => ?_, fun t ht hm => ?_⟩
  · unfold updF at hm
    split at hm
    · cases hm
    · rename_i e
      have hk : kl t ≠ kl s := fun e1 => e (kl_inj ht hs e1)
      rw [Maps.atKey_del_other hk, Maps.has_del_other hk]
      exact h.hit t m ht hm
  · unfold updF at hm
    split at hm
    · rename_i e
      subst e
      exact ⟨Maps.atKey_del_same _, Maps.has_del_same⟩
    · rename_i e
      have hk : kl t ≠ kl s := fun e1 => e (kl_inj ht hs e1)
      rw [Maps.atKey_del_other hk, Maps.has_del_other hk]
      exact h.miss t ht hm
theorem map_new (w : World) (mb : Nat) (h : w.heap[mb]? = some (.map #[] 0)) : MapW w mb (fun _ => none) 0 := by
  have h1 : w.ownsMap Tryd.prog 119 (plainElem Tryd.prog 3) mb 0 (.map [] : DD) := ⟨#[], 0, h, ⟨by simp, Go.MapKept.stamped_empty 0, by simp⟩, Nat.le_refl _, rfl⟩
  exact ⟨.map [], h1, ⟨h1.tidy startKeyed, fun s n _ e => by simp at e, fun s _ _ => ⟨rfl, rfl⟩⟩⟩
/-- a place, or -1 -/
def ov : Option Nat → Int
  | some q => q
  | none => -1
/-- the last place from lo up to hi with a beginning -/
def Last (B : List UInt8) (lo hi : Nat) (s : List UInt8) : Option Nat → Prop
  | some q => lo ≤ q ∧ q < hi ∧ st B q = s ∧ ∀ r, q < r → r < hi → st B r ≠ s
  | none => ∀ r, lo ≤ r → r < hi → st B r ≠ s
/-- a window: block x and its map mb, over the bytes B; it knows the places from lo up to e -/
structure Win (w : World) (x mb n c0 : Nat) (A0 : Option Addr) (B : List UInt8) (lo e : Nat) (f : List UInt8 → Option Nat) : Prop where
  k0 : w.cell? ⟨x, 0, none⟩ = some (.slice A0 n c0)
  k2 : w.cell? ⟨x, 2, none⟩ = some (.map (some mb))
  rd : Rd w mb A0 n (bv B)
  nc : n ≤ c0 ∧ n ≤ 1048576
  mp : MapW w mb f e
  ar : ∀ i, i < 512 → ∃ v, w.cell? ⟨x, 3 + i, none⟩ = some (.int .i64 v)
  be : ∀ p, p < e → e ≤ p + 512 → p + 3 ≤ n → ∃ o, w.cell? ⟨x, 3 + p % 512, none⟩ = some (.int .i64 (ov o)) ∧ Last B (p - 511) p (st B p) o
  la : ∀ s, s.length = 3 → Last B lo e s (f s)
  fz : ∀ o, w.frozen? ⟨x, o, none⟩ = false
  lt : mb < x ∧ x < w.heap.size
section
variable {x mb n c0 lo e : Nat} {A0 : Option Addr} {B : List UInt8} {f : List UInt8 → Option Nat}
theorem Win.len (h : Win w x mb n c0 A0 B lo e f) : B.length = n := by rw [← h.rd.len, bv_len]
theorem Win.kept {bad : Nat → Prop} (h : Win w x mb n c0 A0 B lo e f) (k : Kept w w' bad) (hb : ∀ i, i ≤ x → ¬ bad i) : Win w' x mb n c0 A0 B lo e f := by
  have h1 := h.lt.1
  have h2 := h.lt.2
  exact ⟨(k.cell (a := ⟨x, 0, none⟩) h2 (hb x (Nat.le_refl _))).trans h.k0, (k.cell (a := ⟨x, 2, none⟩) h2 (hb x (Nat.le_refl _))).trans h.k2, k.rd h.rd (by omega) (fun i _ hi => hb i (by omega)), h.nc, k.map h.mp (hb mb (by omega)),
    fun i hi => by
      obtain ⟨v, hv⟩ := h.ar i hi
      exact ⟨v, (k.cell (a := ⟨x, 3 + i, none⟩) h2 (hb x (Nat.le_refl _))).trans hv⟩,
    fun p h3 h4 h5 => by
      obtain ⟨o, ho, hl⟩ := h.be p h3 h4 h5
      exact ⟨o, (k.cell (a := ⟨x, 3 + p % 512, none⟩) h2 (hb x (Nat.le_refl _))).trans ho, hl⟩,
    h.la, fun o => (k.frozen (a := ⟨x, o, none⟩) h2 (hb x (Nat.le_refl _))).trans (h.fz o), h1, Nat.lt_of_lt_of_le h2 k.size⟩
theorem Win.below (h : Win w x mb n c0 A0 B lo e f) (hb : Below w.heap.size w w') : Win w' x mb n c0 A0 B lo e f :=
  h.kept (Kept.ofBelow hb) (fun i hi hc => by have := h.lt.2; omega)
end
end Go.Proofs.YtbcgnacfhpahkaaDoor.lz
