/- A row of chunks: its cells; link, unlink, use. -/
import Derived.Test.YtnmifaohmafobaaProg
import Derived.Test.YtnmifaohmafobaaMem
import Derived.Test.YtnmifaohmafobaaStMath
import Derived.IntWalk
namespace Go.Proofs.Ytnmifaohmafobaa.st
open Go.RowKit Mem SM
set_option linter.unusedVariables false
variable {w w' : World}
/-- what the world keeps, but for some blocks -/
structure Kept (w w' : World) (bad : Nat → Prop) : Prop where
  os : w'.os = w.os
  tape : w'.tape = w.tape
  output : w'.output = w.output
  size : w.heap.size ≤ w'.heap.size
  block : ∀ k, k < w.heap.size → ¬ bad k → w'.heap[k]? = w.heap[k]?
theorem Kept.refl (w : World) (bad : Nat → Prop) : Kept w w bad := ⟨rfl, rfl, rfl, Nat.le_refl _, fun _ _ _ => rfl⟩
theorem Kept.trans {w w1 w2 : World} {bad bad' : Nat → Prop} (h : Kept w w1 bad) (k : Kept w1 w2 bad') (hb : ∀ i, i < w.heap.size → bad' i → bad i) : Kept w w2 bad :=
  ⟨k.os.trans h.os, k.tape.trans h.tape, k.output.trans h.output, Nat.le_trans h.size k.size, fun i hi hn => (k.block i (Nat.lt_of_lt_of_le hi h.size) (fun e => hn (hb i hi e))).trans (h.block i hi hn)⟩
theorem Kept.of {row : Option Nat} (h : w.grownBy w' row) : Kept w w' (fun k => row = some k) := ⟨h.os, h.tape, h.output, h.size, fun i hi hn => h.block i hi (fun e => hn e.symm)⟩
theorem Kept.set (w : World) (c o : Nat) (v : Value) : Kept w (w.setCell ⟨c, o, none⟩ v) (fun k => k = c) := ⟨rfl, rfl, rfl, by rw [World.size_setCell]; exact Nat.le_refl _, fun i hi hn => Below.heap_setCell _ _ _ _ hn⟩
theorem Kept.alloc (w : World) (o : Obj) (bad : Nat → Prop) : Kept w (w.alloc o) bad := ⟨rfl, rfl, rfl, by simp, fun i hi hn => Below.heap_alloc w o i hi⟩
theorem Kept.drew (w : World) (bad : Nat → Prop) : Kept w w.drew bad := ⟨rfl, rfl, rfl, Nat.le_refl _, fun i hi hn => rfl⟩
theorem Kept.drewN (w : World) (n : Nat) (bad : Nat → Prop) : Kept w (w.drewN n) bad := ⟨rfl, rfl, rfl, Nat.le_refl _, fun i hi hn => rfl⟩
theorem Kept.cell {bad : Nat → Prop} (h : Kept w w' bad) {a : Addr} (hl : a.block < w.heap.size) (hb : ¬ bad a.block) : w'.cell? a = w.cell? a := World.cell?_of_block (w := w) (h.block a.block hl hb)
theorem Kept.frozen {bad : Nat → Prop} (h : Kept w w' bad) {a : Addr} (hl : a.block < w.heap.size) (hb : ¬ bad a.block) : w'.frozen? a = w.frozen? a := World.frozen?_of_block (w := w) (h.block a.block hl hb)
theorem Kept.below {bad : Nat → Prop} {B : Nat} {w0 : World} (h : Below B w0 w) (k : Kept w w' bad) (hB : B ≤ w.heap.size) (hb : ∀ i, i < B → ¬ bad i) : Below B w0 w' :=
  h.trans ⟨k.os, k.tape, k.output, k.size, fun i hi => k.block i (by omega) (hb i hi)⟩
theorem Kept.ofBelow {B : Nat} (h : Below B w w') : Kept w w' (fun k => B ≤ k) := ⟨h.os, h.tape, h.output, h.size, fun i hi hn => h.block i (by omega)⟩
theorem Kept.more {bad bad' : Nat → Prop} (h : Kept w w' bad) (hb : ∀ i, i < w.heap.size → bad i → bad' i) : Kept w w' bad' := ⟨h.os, h.tape, h.output, h.size, fun i hi hn => h.block i hi (fun e => hn (hb i hi e))⟩
theorem Kept.rd {bad : Nat → Prop} {B n : Nat} {A : Option Addr} {xs : List Value} (h : Kept w w' bad) (hr : Rd w B A n xs) (hB : B ≤ w.heap.size) (hne : ∀ k, blk A = some k → k < B → ¬ bad k) : Rd w' B A n xs := by
  refine ⟨hr.len, fun hn => ?_⟩
  obtain ⟨c, off, rfl, hc, hcell⟩ := hr.addr hn
  have hnc := hne c rfl hc
  refine ⟨c, off, rfl, hc, fun k hk => ?_⟩
  rw [h.cell (a := ⟨c, off + k, none⟩) (show c < w.heap.size by omega) hnc]
  exact hcell k hk
theorem ne_off {b i j : Nat} (h : i ≠ j) : (⟨b, i, none⟩ : Addr) ≠ ⟨b, j, none⟩ := fun e => h (by injection e)
theorem ne_blk {b c i j : Nat} (h : b ≠ c) : (⟨b, i, none⟩ : Addr) ≠ ⟨c, j, none⟩ := fun e => h (by injection e)
theorem frozen_set (w : World) (a p : Addr) (v : Value) : (w.setCell a v).frozen? p = w.frozen? p := World.frozen?_setCell _ _ _ _
/-- how the chunks of an array of M + 1 are linked -/
structure LinkB (w : World) (r g M : Nat) (ah bh : Nat → Nat) : Prop where
  c0 : w.cell? ⟨r, 0, none⟩ = some (.slice (some ⟨g, 0, none⟩) (M + 1) (M + 1))
  ah : ∀ n, n ≤ M → w.cell? ⟨g, n * 36 + 34, none⟩ = some (.int .i64 (ah n : Nat))
  bh : ∀ n, n ≤ M → w.cell? ⟨g, n * 36 + 35, none⟩ = some (.int .i64 (bh n : Nat))
  gz : ∀ o, w.frozen? ⟨g, o, none⟩ = false
  ne : r ≠ g
/-- only links of block g have turned -/
structure Relinked (w w' : World) (g : Nat) : Prop where
  kept : Kept w w' (· = g)
  fz : ∀ o, w'.frozen? ⟨g, o, none⟩ = w.frozen? ⟨g, o, none⟩
  cell : ∀ o, o % 36 < 34 → w'.cell? ⟨g, o, none⟩ = w.cell? ⟨g, o, none⟩
  sz : w'.heap.size = w.heap.size
theorem Relinked.refl (w : World) (g : Nat) : Relinked w w g := ⟨Kept.refl _ _, fun _ => rfl, fun _ _ => rfl, rfl⟩
theorem Relinked.trans {w w1 w2 : World} {g : Nat} (h : Relinked w w1 g) (k : Relinked w1 w2 g) : Relinked w w2 g :=
  ⟨h.kept.trans k.kept (fun _ _ e => e), fun o => (k.fz o).trans (h.fz o), fun o ho => (k.cell o ho).trans (h.cell o ho), k.sz.trans h.sz⟩
theorem Relinked.drew {w w1 : World} {g : Nat} (h : Relinked w w1 g) : Relinked w w1.drew g := ⟨⟨h.kept.os, h.kept.tape, h.kept.output, h.kept.size, h.kept.block⟩, h.fz, h.cell, h.sz⟩
theorem Relinked.drewN {w w1 : World} {g : Nat} (h : Relinked w w1 g) (n : Nat) : Relinked w (w1.drewN n) g := ⟨⟨h.kept.os, h.kept.tape, h.kept.output, h.kept.size, h.kept.block⟩, h.fz, h.cell, h.sz⟩
theorem Relinked.set (w : World) (g o : Nat) (v : Value) (ho : 34 ≤ o % 36) : Relinked w (w.setCell ⟨g, o, none⟩ v) g :=
  ⟨Kept.set w g o v, fun o' => frozen_set _ _ _ _, fun o' h' => World.cell?_setCell_other _ _ _ _ (ne_off (by omega)), World.size_setCell _ _ _⟩
section
variable {r g M : Nat} {ah bh : Nat → Nat}
theorem LinkB.lt (h : LinkB w r g M ah bh) : r < w.heap.size ∧ g < w.heap.size := ⟨cell_lt h.c0, cell_lt (h.ah 0 (by omega))⟩
theorem LinkB.setA (h : LinkB w r g M ah bh) (n x : Nat) (hn : n ≤ M) : LinkB (w.setCell ⟨g, n * 36 + 34, none⟩ (.int .i64 (x : Nat))) r g M (upd ah n x) bh := by
  refine ⟨?_, ?_, ?_, fun o => by rw [frozen_set]; exact h.gz o, h.ne⟩
  · rw [World.cell?_setCell_other _ _ _ _ (ne_blk h.ne.symm)]; exact h.c0
  · intro k hk
    unfold upd
    by_cases e : k = n
    · subst e; rw [if_pos rfl]; exact World.cell?_setCell_same _ _ _ (h.ah k hk)
    · rw [if_neg e, World.cell?_setCell_other _ _ _ _ (ne_off (by omega))]; exact h.ah k hk
  · intro k hk; rw [World.cell?_setCell_other _ _ _ _ (ne_off (by omega))]; exact h.bh k hk
theorem LinkB.setB (h : LinkB w r g M ah bh) (n x : Nat) (hn : n ≤ M) : LinkB (w.setCell ⟨g, n * 36 + 35, none⟩ (.int .i64 (x : Nat))) r g M ah (upd bh n x) := by
  refine ⟨?_, ?_, ?_, fun o => by rw [frozen_set]; exact h.gz o, h.ne⟩
  · rw [World.cell?_setCell_other _ _ _ _ (ne_blk h.ne.symm)]; exact h.c0
  · intro k hk; rw [World.cell?_setCell_other _ _ _ _ (ne_off (by omega))]; exact h.ah k hk
  · intro k hk
    unfold upd
    by_cases e : k = n
    · subst e; rw [if_pos rfl]; exact World.cell?_setCell_same _ _ _ (h.bh k hk)
    · rw [if_neg e, World.cell?_setCell_other _ _ _ _ (ne_off (by omega))]; exact h.bh k hk
theorem LinkB.drew (h : LinkB w r g M ah bh) : LinkB w.drew r g M ah bh := ⟨h.c0, h.ah, h.bh, h.gz, h.ne⟩
theorem LinkB.drewN (h : LinkB w r g M ah bh) (n : Nat) : LinkB (w.drewN n) r g M ah bh := ⟨h.c0, h.ah, h.bh, h.gz, h.ne⟩
set_option maxRecDepth 100000 in
set_option maxHeartbeats 2000000 in
theorem unlink_any (n : Nat) (w : World) (h : LinkB w r g M ah bh) (hn : n ≤ M) (ha : ah n ≤ M) (hb : bh n ≤ M) (hM : M ≤ 64) :
    Calls Try.prog 53 #[.pointer (some ⟨r, 0, none⟩), .int .i64 (n : Nat)] w fun e w' => e = .returned (.tuple #[]) ∧ LinkB w' r g M (upd ah (bh n) (ah n)) (upd bh (ah n) (bh n)) ∧ Relinked w w' g := by
  have e0 := h.c0
  have e1 := h.ah n hn
  have e2 := h.bh n hn
  have e3 := h.bh _ ha
  have e4 := h.ah _ hb
  have z3 := h.gz (ah n * 36 + 35)
  have z4 := h.gz (bh n * 36 + 34)
  obtain ⟨x, hx⟩ : ∃ x, ah n = x := ⟨_, rfl⟩
  obtain ⟨y, hy⟩ : ∃ y, bh n = y := ⟨_, rfl⟩
  rw [hx] at e1 ha e3 z3 ⊢
  rw [hy] at e2 hb e4 z4 ⊢
  clear hx hy
  have HH := Lib.hid h
  clear h
  have h1 : (n : Int) < ((M + 1 : Nat) : Int) := by omega
  have h2 : (x : Int) < ((M + 1 : Nat) : Int) := by omega
  have h3 : (y : Int) < ((M + 1 : Nat) : Int) := by omega
  go_enter Try.func53, Try.ntmps53
  go_wp2_with fail
  go_quiet (fail)
  go_wp2_with fail
  go_end0
  refine ⟨rfl, ?_, ?_⟩
  · exact ((HH.out.drewN nq).setB x y ha).setA y x hb
  · exact (((Relinked.refl w g).drewN nq).trans (Relinked.set _ g _ _ (by omega))).trans (Relinked.set _ g _ _ (by omega))
set_option maxRecDepth 100000 in
set_option maxHeartbeats 2000000 in
theorem link_any (n : Nat) (w : World) (h : LinkB w r g M ah bh) (hn : n ≤ M) (ha : ah 0 ≤ M) (hM : M ≤ 64) (hne : ah 0 ≠ n) (hn0 : n ≠ 0) :
    Calls Try.prog 54 #[.pointer (some ⟨r, 0, none⟩), .int .i64 (n : Nat)] w fun e w' => e = .returned (.tuple #[]) ∧ LinkB w' r g M (upd (upd ah n (ah 0)) 0 n) (upd (upd bh n 0) (ah 0) n) ∧ Relinked w w' g := by
  have e0 := h.c0
  have e1 := h.ah 0 (by omega)
  rw [Nat.zero_mul, Nat.zero_add] at e1
  have e2 := h.ah n hn
  have e3 := h.bh n hn
  have e4 := h.bh _ ha
  have z2 := h.gz (n * 36 + 34)
  have z3 := h.gz (n * 36 + 35)
  have z4 := h.gz (ah 0 * 36 + 35)
  have z5 := h.gz 34
  obtain ⟨x, hx⟩ : ∃ x, ah 0 = x := ⟨_, rfl⟩
  rw [hx] at e1 ha hne e4 z4 ⊢
  clear hx
  have HH := Lib.hid h
  clear h
  have h1 : (n : Int) < ((M + 1 : Nat) : Int) := by omega
  have h2 : (x : Int) < ((M + 1 : Nat) : Int) := by omega
  go_enter Try.func54, Try.ntmps54
  go_wp2_with fail
  go_region
  all_goals
    go_wp2_with fail
    go_end0
    refine ⟨rfl, ?_, ?_⟩
    · have k1 := (((HH.out.setA n x hn).setB n 0 hn).setB x n ha).setA 0 n (by omega)
      rw [Nat.zero_mul, Nat.zero_add] at k1
      exact k1.drew
    · exact ((((Relinked.set w g (n * 36 + 34) (.int .i64 (x : Int)) (by omega)).trans (Relinked.set _ g _ _ (by omega))).trans (Relinked.set _ g _ _ (by omega))).trans (Relinked.set _ g 34 _ (by omega))).drew
theorem use_any (n : Nat) (w : World) (h : LinkB w r g M ah bh) (hn : n ≤ M) (ha : ah n ≤ M) (hb : bh n ≤ M) (hM : M ≤ 64) (h0 : upd ah (bh n) (ah n) 0 ≤ M) (hne : upd ah (bh n) (ah n) 0 ≠ n) (hn0 : n ≠ 0) :
    Calls Try.prog 44 #[.pointer (some ⟨r, 0, none⟩), .int .i64 (n : Nat)] w fun e w' => e = .returned (.tuple #[]) ∧
      LinkB w' r g M (upd (upd (upd ah (bh n) (ah n)) n (upd ah (bh n) (ah n) 0)) 0 n) (upd (upd (upd bh (ah n) (bh n)) n 0) (upd ah (bh n) (ah n) 0) n) ∧ Relinked w w' g := by
  have HU := Lib.hid (unlink_any n w h hn ha hb hM)
  obtain ⟨a1, ha1⟩ : ∃ f, upd ah (bh n) (ah n) = f := ⟨_, rfl⟩
  obtain ⟨b1, hb1⟩ : ∃ f, upd bh (ah n) (bh n) = f := ⟨_, rfl⟩
  rw [ha1, hb1] at HU
  rw [ha1] at h0 hne ⊢
  rw [hb1]
  clear ha1 hb1 h
  go_enter Try.func44, Try.ntmps44
  go_wp2_with (go_at_call 53; refine HU.out.mono ?_; clear HU; rintro e w1 ⟨rfl, hL1, hR1⟩)
  have HL := Lib.hid (link_any n w1 hL1 hn h0 hM hne hn0)
  have HR := Lib.hid hR1
  clear hL1 hR1
  go_wp2_with (go_at_call 54; refine HL.out.mono ?_; clear HL; rintro e w2 ⟨rfl, hL2, hR2⟩)
  go_end0
  exact ⟨rfl, hL2, HR.out.trans hR2⟩
#print axioms use_any
end
end Go.Proofs.Ytnmifaohmafobaa.st
