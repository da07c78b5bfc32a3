/- What packet.parse needs: readings of bytes, a packet that is laid. -/
import Derived.Test.YtjpdamighffgfaaPkG
namespace Go.Proofs.Ytjpdamighffgfaa.pk
open Go.RowKit Mem SM lib sum PM
set_option linter.unusedVariables false
theorem dataAt_any (bb oo n c B : Nat) (l : List UInt8) (w : World) (h : Rd w B (some ⟨bb, oo, none⟩) n (bv l)) (hn : 20 < n) :
    Calls Try.prog 40 #[.slice (some ⟨bb, oo, none⟩) n c] w fun e w' => e = .returned (.int .i64 (dataAt l : Nat)) ∧ w = w' := by
  have hl : l.length = n := by rw [← bv_len, h.len]
  obtain ⟨b1, o1, e, _, hc⟩ := h.at_ hn
  obtain ⟨rfl, rfl⟩ : bb = b1 ∧ oo = o1 := by simpa using e
  clear e
  rw [bv_at l 20 (by omega)] at hc
  obtain ⟨x, hx⟩ : ∃ x, x = (l[20]'(by omega)).toNat := ⟨_, rfl⟩
  rw [← hx] at hc
  have hx8 : x < 256 := by rw [hx]; exact UInt8.toNat_lt _
  have hd : dataAt l = 22 + x := by unfold dataAt; rw [hx]; simp [show 20 < l.length by omega]
  have Hd := Lib.hid hd
  have f1 : (20 : Int) < (n : Int) := by omega
  clear hd hx hl
  go_enter Try.func40, Try.ntmps40
  go_wp2_with fail
  go_ret
  exact ⟨ret_int (by rw [Hd.out]; simp), rfl⟩
/-- a cell of the bytes -/
theorem rd_cell {w : World} {B bb oo n : Nat} {l : List UInt8} (h : Rd w B (some ⟨bb, oo, none⟩) n (bv l)) (k : Nat) (hk : k < n) : w.cell? ⟨bb, oo + k, none⟩ = some (.int .u8 ((l.getD k 0).toNat : Int)) := by
  have hl : l.length = n := by rw [← bv_len, h.len]
  obtain ⟨b1, o1, e, _, hc⟩ := h.at_ hk
  obtain ⟨rfl, rfl⟩ : bb = b1 ∧ oo = o1 := by simpa using e
  rw [bv_at l k (by omega)] at hc
  rw [hc]
  simp [show k < l.length by omega]
/-- a cut of the bytes -/
theorem rd_cut {w : World} {B bb oo n : Nat} {l : List UInt8} (h : Rd w B (some ⟨bb, oo, none⟩) n (bv l)) (i m : Nat) (hm : i + m ≤ n) : Rd w B (some ⟨bb, oo + i, none⟩) m (bv (cutB l i m)) := by
  have := h.cut (l := i) (m := m) hm (A' := some ⟨bb, oo + i, none⟩) (fun _ => by simp [Addr.add])
  rw [← bv_drop, ← bv_take] at this
  exact this
theorem below_drew {B : Nat} {w w1 : World} (h : Below B w w1) : Below B w w1.drew := ⟨h.os, h.tape, h.output, h.size, h.block⟩
theorem balloc {w w1 : World} (h : Below w.heap.size w w1) (o : Obj) : Below w.heap.size w (w1.alloc o) := h.alloc h.size _
theorem rd_rest {w : World} {B bb oo n : Nat} {l : List UInt8} (h : Rd w B (some ⟨bb, oo, none⟩) n (bv l)) (i : Nat) (hm : i ≤ n) : Rd w B (some ⟨bb, oo + i, none⟩) (n - i) (bv (l.drop i)) := by
  have := h.cut (l := i) (m := n - i) (by omega) (A' := some ⟨bb, oo + i, none⟩) (fun _ => by simp [Addr.add])
  rw [List.take_of_length_le (by rw [List.length_drop, h.len]; omega), ← bv_drop] at this
  exact this
theorem cut_len (l : List UInt8) (i m n : Nat) (hl : l.length = n) (h : i + m ≤ n) : (cutB l i m).length = m := by simp [cutB]; omega
theorem num2 (l : List UInt8) (i n : Nat) (hl : l.length = n) (h : i + 2 ≤ n) : numB (cutB l i 2) < 65536 := by
  have := numB_lt (cutB l i 2)
  rw [cut_len l i 2 n hl h] at this
  exact this
theorem num4 (l : List UInt8) (i n : Nat) (hl : l.length = n) (h : i + 4 ≤ n) : numB (cutB l i 4) < 4294967296 := by
  have := numB_lt (cutB l i 4)
  rw [cut_len l i 4 n hl h] at this
  exact this
/-- a new packet's cells, behind a step that leaves all that was there as it was -/
structure ZAt (v : World) (g : Nat) : Prop where
  c0 : v.cell? ⟨g, 0, none⟩ = some (.int .i64 0)
  c1 : v.cell? ⟨g, 1, none⟩ = some (.int .i64 0)
  c2 : v.cell? ⟨g, 2, none⟩ = some (.int .i64 0)
  c3 : v.cell? ⟨g, 3, none⟩ = some (.int .i64 0)
  c4 : v.cell? ⟨g, 4, none⟩ = some (.int .u32 0)
  c5 : v.cell? ⟨g, 5, none⟩ = some (.int .u32 0)
  c6 : v.cell? ⟨g, 6, none⟩ = some (.int .i64 0)
  c7 : v.cell? ⟨g, 7, none⟩ = some (.int .i64 0)
  c8 : v.cell? ⟨g, 8, none⟩ = some (.int .i64 0)
  c9 : v.cell? ⟨g, 9, none⟩ = some (.int .i64 0)
  c10 : v.cell? ⟨g, 10, none⟩ = some (.slice none 0 0)
  f0 : v.frozen? ⟨g, 0, none⟩ = false
  f1 : v.frozen? ⟨g, 1, none⟩ = false
  f2 : v.frozen? ⟨g, 2, none⟩ = false
  f3 : v.frozen? ⟨g, 3, none⟩ = false
  f4 : v.frozen? ⟨g, 4, none⟩ = false
  f5 : v.frozen? ⟨g, 5, none⟩ = false
  f6 : v.frozen? ⟨g, 6, none⟩ = false
  f7 : v.frozen? ⟨g, 7, none⟩ = false
  f8 : v.frozen? ⟨g, 8, none⟩ = false
  f9 : v.frozen? ⟨g, 9, none⟩ = false
  f10 : v.frozen? ⟨g, 10, none⟩ = false
theorem ZAt.new (w : World) : ZAt (w.alloc (.cells #[.int .i64 0, .int .i64 0, .int .i64 0, .int .i64 0, .int .u32 0, .int .u32 0, .int .i64 0, .int .i64 0, .int .i64 0, .int .i64 0, .slice none 0 0] 25)) w.heap.size := by constructor <;> simp
theorem ZAt.drew {w : World} {g : Nat} (h : ZAt w g) : ZAt w.drew g := ⟨h.c0, h.c1, h.c2, h.c3, h.c4, h.c5, h.c6, h.c7, h.c8, h.c9, h.c10, h.f0, h.f1, h.f2, h.f3, h.f4, h.f5, h.f6, h.f7, h.f8, h.f9, h.f10⟩
theorem ZAt.below {V v : World} {g B : Nat} (h : ZAt V g) (hb : Below B V v) (hg : g < B) : ZAt v g :=
  ⟨(hb.cell (p := ⟨g, 0, none⟩) hg).trans h.c0, (hb.cell (p := ⟨g, 1, none⟩) hg).trans h.c1, (hb.cell (p := ⟨g, 2, none⟩) hg).trans h.c2, (hb.cell (p := ⟨g, 3, none⟩) hg).trans h.c3, (hb.cell (p := ⟨g, 4, none⟩) hg).trans h.c4, (hb.cell (p := ⟨g, 5, none⟩) hg).trans h.c5, (hb.cell (p := ⟨g, 6, none⟩) hg).trans h.c6, (hb.cell (p := ⟨g, 7, none⟩) hg).trans h.c7, (hb.cell (p := ⟨g, 8, none⟩) hg).trans h.c8, (hb.cell (p := ⟨g, 9, none⟩) hg).trans h.c9, (hb.cell (p := ⟨g, 10, none⟩) hg).trans h.c10, (hb.frozen (p := ⟨g, 0, none⟩) hg).trans h.f0, (hb.frozen (p := ⟨g, 1, none⟩) hg).trans h.f1, (hb.frozen (p := ⟨g, 2, none⟩) hg).trans h.f2, (hb.frozen (p := ⟨g, 3, none⟩) hg).trans h.f3, (hb.frozen (p := ⟨g, 4, none⟩) hg).trans h.f4, (hb.frozen (p := ⟨g, 5, none⟩) hg).trans h.f5, (hb.frozen (p := ⟨g, 6, none⟩) hg).trans h.f6, (hb.frozen (p := ⟨g, 7, none⟩) hg).trans h.f7, (hb.frozen (p := ⟨g, 8, none⟩) hg).trans h.f8, (hb.frozen (p := ⟨g, 9, none⟩) hg).trans h.f9, (hb.frozen (p := ⟨g, 10, none⟩) hg).trans h.f10⟩
theorem set11 {B g : Nat} {w v : World} (h : Below B w v) (hg : B ≤ g) (u0 u1 u2 u3 u4 u5 u6 u7 u8 u9 u10 : Value) : Below B w (((((((((((v.setCell ⟨g, 0, none⟩ u0).setCell ⟨g, 1, none⟩ u1).setCell ⟨g, 2, none⟩ u2).setCell ⟨g, 3, none⟩ u3).setCell ⟨g, 4, none⟩ u4).setCell ⟨g, 5, none⟩ u5).setCell ⟨g, 6, none⟩ u6).setCell ⟨g, 7, none⟩ u7).setCell ⟨g, 8, none⟩ u8).setCell ⟨g, 9, none⟩ u9).setCell ⟨g, 10, none⟩ u10) :=
  (((((((((((h.setCell hg _).setCell hg _).setCell hg _).setCell hg _).setCell hg _).setCell hg _).setCell hg _).setCell hg _).setCell hg _).setCell hg _).setCell hg _)
/-- a packet that is being read lies in block g -/
structure PAt (w : World) (g x1 x2 q4 q6 q8 q12 x3 q16 : Nat) (pr or : Int) (dat : List UInt8) (Ad : Option Addr) (Nd Cd : Nat) (wx : World) : Prop where
  bel : Below w.heap.size w wx
  ow : Ow wx w.heap.size 5 Ad Nd Cd (bv dat)
  c0 : wx.cell? ⟨g, 0, none⟩ = some (.int .i64 (x1 : Int))
  c1 : wx.cell? ⟨g, 1, none⟩ = some (.int .i64 (x2 : Int))
  c2 : wx.cell? ⟨g, 2, none⟩ = some (.int .i64 (q4 : Int))
  c3 : wx.cell? ⟨g, 3, none⟩ = some (.int .i64 (q6 : Int))
  c4 : wx.cell? ⟨g, 4, none⟩ = some (.int .u32 (q8 : Int))
  c5 : wx.cell? ⟨g, 5, none⟩ = some (.int .u32 (q12 : Int))
  c6 : wx.cell? ⟨g, 6, none⟩ = some (.int .i64 (x3 : Int))
  c7 : wx.cell? ⟨g, 7, none⟩ = some (.int .i64 (q16 : Int))
  c8 : wx.cell? ⟨g, 8, none⟩ = some (.int .i64 pr)
  c9 : wx.cell? ⟨g, 9, none⟩ = some (.int .i64 or)
  c10 : wx.cell? ⟨g, 10, none⟩ = some (.slice Ad Nd Cd)
  f8 : wx.frozen? ⟨g, 8, none⟩ = false
  f9 : wx.frozen? ⟨g, 9, none⟩ = false
/-- the packet that lies behind the first reading: its head and its data; no options yet -/
def HeadAt (w : World) (x1 x2 q4 q6 q8 q12 x3 q16 : Nat) (dat : List UInt8) (s : Value) (wx : World) : Prop := ∃ g Ad Nd Cd, s = .pointer (some ⟨g, 0, none⟩) ∧ w.heap.size ≤ g ∧ (blk Ad = none ∨ blk Ad ≠ some g) ∧ PAt w g x1 x2 q4 q6 q8 q12 x3 q16 0 0 dat Ad Nd Cd wx
theorem Ow.setCell {w : World} {B : Nat} {E : TypeId} {A : Option Addr} {n c : Nat} {xs : List Value} {g k : Nat} {u : Value} (h : Ow w B E A n c xs) (hne : blk A = none ∨ blk A ≠ some g) : Ow (w.setCell ⟨g, k, none⟩ u) B E A n c xs :=
  h.kept (row := some g) ⟨rfl, rfl, rfl, by simp [World.setCell], fun i _ hi => Below.heap_setCell _ _ _ _ (fun e => hi (by rw [e]))⟩ hne
theorem set_step {v : World} {g : Nat} {u : Nat → Value} (h : ∀ k, k < 11 → v.cell? ⟨g, k, none⟩ = some (u k)) (j : Nat) (hj : j < 11) (x : Value) : ∀ k, k < 11 → (v.setCell ⟨g, j, none⟩ x).cell? ⟨g, k, none⟩ = some (if k = j then x else u k) := by
  intro k hk
  by_cases e : k = j
  · subst e
    rw [if_pos rfl]
    exact World.cell?_setCell_same _ _ _ (h k hk)
  · rw [if_neg e, World.cell?_setCell_other _ _ _ _ (by intro h2; injection h2 with _ h3; exact e h3.symm)]
    exact h k hk
theorem Grew.apart {w w' : World} {A' : Option Addr} {g : Nat} (h : Grew w w' none A') (hg : g < w.heap.size) : blk A' = none ∨ blk A' ≠ some g := by
  rcases h.2 with e | ⟨k, hk, e⟩
  · exact Or.inl e
  · exact Or.inr (by rw [e]; intro e2; injection e2 with e2; omega)
theorem ZAt.all {v : World} {g : Nat} (h : ZAt v g) : ∃ u : Nat → Value, ∀ k, k < 11 → v.cell? ⟨g, k, none⟩ = some (u k) := by
  refine ⟨fun k => ((v.cell? ⟨g, k, none⟩).getD (.int .i64 0)), fun k hk => ?_⟩
  have : (v.cell? ⟨g, k, none⟩).isSome = true := by
    match k, hk with
    | 0, _ => rw [h.c0]; rfl
    | 1, _ => rw [h.c1]; rfl
    | 2, _ => rw [h.c2]; rfl
    | 3, _ => rw [h.c3]; rfl
    | 4, _ => rw [h.c4]; rfl
    | 5, _ => rw [h.c5]; rfl
    | 6, _ => rw [h.c6]; rfl
    | 7, _ => rw [h.c7]; rfl
    | 8, _ => rw [h.c8]; rfl
    | 9, _ => rw [h.c9]; rfl
    | 10, _ => rw [h.c10]; rfl
    | k + 11, h => exact absurd h (by omega)
  obtain ⟨x, hx⟩ := Option.isSome_iff_exists.1 this
  simp [hx]
theorem headA {w v : World} {g x1 x2 q4 q6 q8 q12 x3 q16 : Nat} {dat : List UInt8} {Ad : Option Addr} {Nd Cd : Nat} (hz : ZAt v g) (hb : Below w.heap.size w v) (hg : w.heap.size ≤ g) (ho : Ow v w.heap.size 5 Ad Nd Cd (bv dat)) (hne : blk Ad = none ∨ blk Ad ≠ some g) :
    HeadAt w x1 x2 q4 q6 q8 q12 x3 q16 dat (.pointer (some ⟨g, 0, none⟩)) (((((((((((v.setCell ⟨g, 0, none⟩ (.int .i64 (x1 : Int))).setCell ⟨g, 1, none⟩ (.int .i64 (x2 : Int))).setCell ⟨g, 2, none⟩ (.int .i64 (q4 : Int))).setCell ⟨g, 3, none⟩ (.int .i64 (q6 : Int))).setCell ⟨g, 4, none⟩ (.int .u32 (q8 : Int))).setCell ⟨g, 5, none⟩ (.int .u32 (q12 : Int))).setCell ⟨g, 6, none⟩ (.int .i64 (x3 : Int))).setCell ⟨g, 7, none⟩ (.int .i64 (q16 : Int))).setCell ⟨g, 8, none⟩ (.int .i64 0)).setCell ⟨g, 9, none⟩ (.int .i64 0)).setCell ⟨g, 10, none⟩ (.slice Ad Nd Cd)) := by
  obtain ⟨u, hu⟩ := hz.all
  have h := (set_step (set_step (set_step (set_step (set_step (set_step (set_step (set_step (set_step (set_step (set_step hu 0 (by omega) (.int .i64 (x1 : Int))) 1 (by omega) (.int .i64 (x2 : Int))) 2 (by omega) (.int .i64 (q4 : Int))) 3 (by omega) (.int .i64 (q6 : Int))) 4 (by omega) (.int .u32 (q8 : Int))) 5 (by omega) (.int .u32 (q12 : Int))) 6 (by omega) (.int .i64 (x3 : Int))) 7 (by omega) (.int .i64 (q16 : Int))) 8 (by omega) (.int .i64 0)) 9 (by omega) (.int .i64 0)) 10 (by omega) (.slice Ad Nd Cd))
  exact ⟨g, Ad, Nd, Cd, rfl, hg, hne, ⟨set11 hb hg _ _ _ _ _ _ _ _ _ _ _, (Ow.setCell (Ow.setCell (Ow.setCell (Ow.setCell (Ow.setCell (Ow.setCell (Ow.setCell (Ow.setCell (Ow.setCell (Ow.setCell (Ow.setCell ho hne) hne) hne) hne) hne) hne) hne) hne) hne) hne) hne), h 0 (by omega), h 1 (by omega), h 2 (by omega), h 3 (by omega), h 4 (by omega), h 5 (by omega), h 6 (by omega), h 7 (by omega), h 8 (by omega), h 9 (by omega), h 10 (by omega), by simp only [World.frozen?_setCell]; exact hz.f8, by simp only [World.frozen?_setCell]; exact hz.f9⟩⟩
theorem headB {w v : World} {x1 x2 q4 q6 q8 q12 x3 q16 : Nat} {dat : List UInt8} {Ad : Option Addr} {Nd Cd : Nat} (hb : Below w.heap.size w v) (ho : Ow v w.heap.size 5 Ad Nd Cd (bv dat)) :
    HeadAt w x1 x2 q4 q6 q8 q12 x3 q16 dat (.pointer (some ⟨v.heap.size, 0, none⟩)) (v.alloc (.cells #[.int .i64 (x1 : Int), .int .i64 (x2 : Int), .int .i64 (q4 : Int), .int .i64 (q6 : Int), .int .u32 (q8 : Int), .int .u32 (q12 : Int), .int .i64 (x3 : Int), .int .i64 (q16 : Int), .int .i64 0, .int .i64 0, .slice Ad Nd Cd] 25)) := by
  refine ⟨v.heap.size, Ad, Nd, Cd, rfl, hb.size, ?_, ⟨balloc hb _, ho.alloc _, ?_, ?_, ?_, ?_, ?_, ?_, ?_, ?_, ?_, ?_, ?_, ?_, ?_⟩⟩
  · cases hA : blk Ad with
    | none => exact Or.inl rfl
    | some k =>
      refine Or.inr fun e => ?_
      have := (ho.blk_lt k hA).2
      injection e with e
      omega
  all_goals simp
theorem PAt.probe {w wx : World} {g x1 x2 q4 q6 q8 q12 x3 q16 : Nat} {pr or pr' : Int} {dat : List UInt8} {Ad : Option Addr} {Nd Cd : Nat} (h : PAt w g x1 x2 q4 q6 q8 q12 x3 q16 pr or dat Ad Nd Cd wx) (hg : w.heap.size ≤ g) (hne : blk Ad = none ∨ blk Ad ≠ some g) :
    PAt w g x1 x2 q4 q6 q8 q12 x3 q16 pr' or dat Ad Nd Cd (wx.setCell ⟨g, 8, none⟩ (.int .i64 pr')) :=
  ⟨h.bel.setCell hg _, Ow.setCell h.ow hne, (World.cell?_setCell_other _ _ _ _ (by intro e; injection e with _ e2; exact absurd e2 (by decide))).trans h.c0, (World.cell?_setCell_other _ _ _ _ (by intro e; injection e with _ e2; exact absurd e2 (by decide))).trans h.c1, (World.cell?_setCell_other _ _ _ _ (by intro e; injection e with _ e2; exact absurd e2 (by decide))).trans h.c2, (World.cell?_setCell_other _ _ _ _ (by intro e; injection e with _ e2; exact absurd e2 (by decide))).trans h.c3, (World.cell?_setCell_other _ _ _ _ (by intro e; injection e with _ e2; exact absurd e2 (by decide))).trans h.c4, (World.cell?_setCell_other _ _ _ _ (by intro e; injection e with _ e2; exact absurd e2 (by decide))).trans h.c5, (World.cell?_setCell_other _ _ _ _ (by intro e; injection e with _ e2; exact absurd e2 (by decide))).trans h.c6, (World.cell?_setCell_other _ _ _ _ (by intro e; injection e with _ e2; exact absurd e2 (by decide))).trans h.c7, World.cell?_setCell_same _ _ _ h.c8, (World.cell?_setCell_other _ _ _ _ (by intro e; injection e with _ e2; exact absurd e2 (by decide))).trans h.c9, (World.cell?_setCell_other _ _ _ _ (by intro e; injection e with _ e2; exact absurd e2 (by decide))).trans h.c10, by simp only [World.frozen?_setCell]; exact h.f8, by simp only [World.frozen?_setCell]; exact h.f9⟩
theorem PAt.origin {w wx : World} {g x1 x2 q4 q6 q8 q12 x3 q16 : Nat} {pr or or' : Int} {dat : List UInt8} {Ad : Option Addr} {Nd Cd : Nat} (h : PAt w g x1 x2 q4 q6 q8 q12 x3 q16 pr or dat Ad Nd Cd wx) (hg : w.heap.size ≤ g) (hne : blk Ad = none ∨ blk Ad ≠ some g) :
    PAt w g x1 x2 q4 q6 q8 q12 x3 q16 pr or' dat Ad Nd Cd (wx.setCell ⟨g, 9, none⟩ (.int .i64 or')) :=
  ⟨h.bel.setCell hg _, Ow.setCell h.ow hne, (World.cell?_setCell_other _ _ _ _ (by intro e; injection e with _ e2; exact absurd e2 (by decide))).trans h.c0, (World.cell?_setCell_other _ _ _ _ (by intro e; injection e with _ e2; exact absurd e2 (by decide))).trans h.c1, (World.cell?_setCell_other _ _ _ _ (by intro e; injection e with _ e2; exact absurd e2 (by decide))).trans h.c2, (World.cell?_setCell_other _ _ _ _ (by intro e; injection e with _ e2; exact absurd e2 (by decide))).trans h.c3, (World.cell?_setCell_other _ _ _ _ (by intro e; injection e with _ e2; exact absurd e2 (by decide))).trans h.c4, (World.cell?_setCell_other _ _ _ _ (by intro e; injection e with _ e2; exact absurd e2 (by decide))).trans h.c5, (World.cell?_setCell_other _ _ _ _ (by intro e; injection e with _ e2; exact absurd e2 (by decide))).trans h.c6, (World.cell?_setCell_other _ _ _ _ (by intro e; injection e with _ e2; exact absurd e2 (by decide))).trans h.c7, (World.cell?_setCell_other _ _ _ _ (by intro e; injection e with _ e2; exact absurd e2 (by decide))).trans h.c8, World.cell?_setCell_same _ _ _ h.c9, (World.cell?_setCell_other _ _ _ _ (by intro e; injection e with _ e2; exact absurd e2 (by decide))).trans h.c10, by simp only [World.frozen?_setCell]; exact h.f8, by simp only [World.frozen?_setCell]; exact h.f9⟩
theorem wrap_u32 (n : Int) : IntKind.u32.wrap n = n % 4294967296 := by simp [IntKind.wrap, IntKind.signed, IntKind.bits]
/-- bytes read as the walk spells it: any number q that they are -/
theorem gather_cut {bb oo n c B : Nat} {l : List UInt8} {w : World} (h : Rd w B (some ⟨bb, oo, none⟩) n (bv l)) (hB : B ≤ w.heap.size) (i m q : Nat) (hm : i + m ≤ n) (h8 : m ≤ 8) (hq : q = numB (cutB l i m)) (w' : World) (hb : Below w.heap.size w w') :
    Calls Try.prog 49 #[.slice (some ⟨bb, oo + i, none⟩) m c] w' fun e w'' => e = .returned (.int .u64 (q : Nat)) ∧ w' = w'' := by
  rw [hq]
  exact gather_any _ m c B _ w' ((rd_cut h i m hm).below hb hB) h8
end Go.Proofs.Ytjpdamighffgfaa.pk
