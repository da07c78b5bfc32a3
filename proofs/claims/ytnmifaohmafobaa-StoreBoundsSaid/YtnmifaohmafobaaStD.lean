/- A row's order, one number behind the other, as a range over a function. -/
import Derived.Test.YtnmifaohmafobaaStC
import Derived.RangeFuncNested
import Derived.RangeFuncBound
import Derived.RangeFuncCalls
import Derived.RangeFuncLeaves
import Derived.RangeFuncBox
import Derived.Shelf.Abstract
import Derived.Shelf.RegionOpen
import Derived.OwnWalkIn
import Derived.TacticsInMore
import Derived.LoopNIn
import Derived.LoopIn
import Derived.Maps.AppendAt
namespace Go.Proofs.Ytnmifaohmafobaa.st
open Go.RowKit Go.Shelf Mem SM
set_option linter.unusedVariables false
attribute [local go_sem] Oper.semAt_some
/-- these three blocks are as they were -/
structure KS (a b c : Nat) (W W' : World) : Prop where
  size : W.heap.size ≤ W'.heap.size
  same : ∀ k, k < W.heap.size → (k = a ∨ k = b ∨ k = c) → W'.heap[k]? = W.heap[k]?
theorem KS.refl (a b c : Nat) (W : World) : KS a b c W W := ⟨Nat.le_refl _, fun _ _ _ => rfl⟩
theorem KS.trans {a b c : Nat} {A B C : World} (h : KS a b c A B) (k : KS a b c B C) : KS a b c A C := ⟨Nat.le_trans h.size k.size, fun i hi hs => (k.same i (Nat.lt_of_lt_of_le hi h.size) hs).trans (h.same i hi hs)⟩
theorem KS.put {a b c : Nat} {w : World} (ha : a < w.heap.size) (hb : b < w.heap.size) (hc : c < w.heap.size) (W : World) (l : Nat) (o o' : Obj) (hl : w.heap.size ≤ l) (h : W.heap[l]? = some o) (_ : o.isCells = false) (_ : o.isWalk = false) : KS a b c W (W.putObj l o') :=
  ⟨by simp, fun k hk hs => World.putObj_heap_other (by omega)⟩
theorem KS.of {a b c : Nat} {W W' : World} {bad : Nat → Prop} (h : Kept W W' bad) (hb : ∀ k, k < W.heap.size → (k = a ∨ k = b ∨ k = c) → ¬ bad k) : KS a b c W W' :=
  ⟨h.size, fun k hk hs => h.block k hk (hb k hk hs)⟩
theorem KS.cell {a b c : Nat} {W W' : World} (h : KS a b c W W') {p : Addr} (hp : p.block = a ∨ p.block = b ∨ p.block = c) {v : Value} (hv : W.cell? p = some v) : W'.cell? p = some v :=
  (World.cell?_of_block (w := W) (h.same p.block (World.block_lt_of_cell? W _ hv) hp)).trans hv
/-- from number c on these stand in the ring -/
def IsCur (g M : Nat) (W : World) : Nat → List Nat → Prop
  | c, [] => c = 0
  | c, m :: l => c = m ∧ m ≠ 0 ∧ m ≤ M ∧ ∃ q : Nat, W.cell? ⟨g, m * 36 + 35, none⟩ = some (.int .i64 (q : Nat)) ∧ IsCur g M W q l
theorem IsCur.keep {a b g M : Nat} {A B : World} (h : KS a b g A B) : ∀ {l : List Nat} {c : Nat}, IsCur g M A c l → IsCur g M B c l
  | [], _, hl => hl
  | m :: l, _, ⟨h1, h2, h3, q, hq, hr⟩ => ⟨h1, h2, h3, q, h.cell (Or.inr (Or.inr rfl)) hq, IsCur.keep h hr⟩
theorem IsCur.below {B0 g M : Nat} {A B : World} (hg : g < B0) (h : Below B0 A B) : ∀ {l : List Nat} {c : Nat}, IsCur g M A c l → IsCur g M B c l
  | [], _, hl => hl
  | m :: l, _, ⟨h1, h2, h3, q, hq, hr⟩ => ⟨h1, h2, h3, q, (h.cell (p := ⟨g, m * 36 + 35, none⟩) hg).trans hq, IsCur.below hg h hr⟩
theorem IsCur.unique {g M : Nat} {W : World} : ∀ {l k : List Nat} {c : Nat}, IsCur g M W c l → IsCur g M W c k → l = k
  | [], [], _, _, _ => rfl
  | [], _ :: _, _, h, ⟨e, h0, _⟩ => absurd (e.symm.trans h) h0
  | _ :: _, [], _, ⟨e, h0, _⟩, h => absurd (e.symm.trans h) h0
  | m :: l, m' :: k, _, ⟨e, _, _, q, hq, hr⟩, ⟨e', _, _, q', hq', hr'⟩ => by
    obtain rfl : m = m' := e.symm.trans e'
    rw [hq] at hq'
    have h9 : (q : Int) = (q' : Int) := by simpa using hq'
    obtain rfl : q = q' := by omega
    rw [IsCur.unique hr hr']
open Classical in
noncomputable def leftR (g M : Nat) (W : World) (v : Value) : Nat :=
  if h : ∃ p : Nat × List Nat, v = .int .i64 (p.1 : Nat) ∧ IsCur g M W p.1 p.2 then (Classical.choose h).2.length else 0
theorem leftR_eq {g M c : Nat} {W : World} {l : List Nat} (h : IsCur g M W c l) : leftR g M W (.int .i64 (c : Nat)) = l.length := by
  have hex : ∃ p : Nat × List Nat, Value.int .i64 (c : Nat) = .int .i64 (p.1 : Nat) ∧ IsCur g M W p.1 p.2 := ⟨(c, l), rfl, h⟩
  unfold leftR
  rw [dif_pos hex]
  obtain ⟨e, hl⟩ := Classical.choose_spec hex
  have e9 : (c : Int) = ((Classical.choose hex).1 : Int) := by simpa using e
  have e' : c = (Classical.choose hex).1 := by omega
  rw [← e'] at hl
  rw [IsCur.unique hl h]
theorem cur_of_chain {w : World} {r g M : Nat} {ah bh : Nat → Nat} (hl : LinkB w r g M ah bh) : ∀ (l : List Nat) (a : Nat), Chain ah bh a l → (∀ n ∈ l, 1 ≤ n ∧ n ≤ M) → IsCur g M w (bh a) l
  | [], a, h, _ => h.1
  | m :: l, a, h, hm => by
    obtain ⟨h1, h2⟩ := hm m (by simp)
    exact ⟨h.1, by omega, h2, bh m, hl.bh m h2, cur_of_chain hl l m h.2.2 (fun n hn => hm n (by simp [hn]))⟩
set_option maxRecDepth 100000 in
set_option maxHeartbeats 2000000 in
theorem order1_in (F : Fence) (n : Nat) (h6 : F.fn 55) (hro : F.round = none) (hn : 1 ≤ n) (l Bn r g M c0 : Nat) (hM : M ≤ 64) (xs : List Nat) (J Jx : List Nat → World → Prop)
    (hY : ∀ pre x W, x ≤ M → J pre W → pre.length < xs.length → YieldAt F (n - 1) Try.prog l #[.int .i64 (x : Nat)] W fun e W' =>
      (e = .returned (.bool true) ∧ J (pre ++ [x]) W' ∧ KS Bn r g W W') ∨ (e = .returned (.bool false) ∧ Jx (pre ++ [x]) W'))
    (W : World) (hB1 : W.cell? ⟨Bn, 0, none⟩ = some (.pointer (some ⟨r, 0, none⟩))) (hR1 : W.cell? ⟨r, 0, none⟩ = some (.slice (some ⟨g, 0, none⟩) (M + 1) (M + 1))) (hC : W.cell? ⟨g, 35, none⟩ = some (.int .i64 (c0 : Nat))) (hL : IsCur g M W c0 xs) (h0 : J [] W) :
    CallsIn F n Try.prog 55 #[.func (.yield l) #[] #[], .pointer (some ⟨Bn, 0, none⟩)] W fun e W' => (∃ v, e = .returned v) ∧
      ((∃ ys, ys = xs ∧ J ys W') ∨ (∃ pre, pre <+: xs ∧ Jx pre W')) := by
  refine callsIn_of_wp Try.func55 rfl h6 ?_ hro
  simp only [Try.ntmps55, List.size_toArray, List.length_cons, List.length_nil, Nat.reduceAdd, Nat.reduceSub, Array.replicate_succ, Array.replicate_zero, List.push_toArray, List.append_toArray, List.nil_append, List.cons_append]
  gi_wp2
  gi_loopw [3] (fun p wr => ∃ (pre rest : List Nat) (q : Nat), p = .int .i64 (q : Nat) ∧ xs = pre ++ rest ∧ IsCur g M wr q rest ∧ J pre wr ∧ Hid (KS Bn r g W wr))
    (fun p wr => leftR g M wr p)
  case atStart =>
    exact ⟨[], xs, c0, rfl, rfl, hL, h0, KS.refl _ _ _ _⟩
  case round =>
    obtain ⟨pre, rest, q, rfl, hx, hl, hJs, hbW⟩ := hrel
    cases rest with
    | nil =>
      obtain rfl : q = 0 := hl
      gi_wp2
      go_end0
      exact ⟨⟨_, rfl⟩, .inl ⟨pre, by simp [hx], hJs⟩⟩
    | cons x rest =>
      have hl' := hl
      obtain ⟨rfl, hq0, hqM, q', hq, hr'⟩ := hl
      obtain ⟨fn, tmps, assign, body, hy, hR⟩ := hY pre q wr hqM hJs (by rw [hx]; simp)
      have hq2 : ((q : Int) != 0) = true := by simp; omega
      have hlt : (q : Int) < ((M + 1 : Nat) : Int) := by omega
      gi_wp2
      refine hR.mono ?_
      rintro e W3 (⟨rfl, hJ3, hk3⟩ | ⟨rfl, hJx3⟩)
      · have g1 := hk3.cell (Or.inl rfl) (hbW.out.cell (Or.inl rfl) hB1)
        have g2 := hk3.cell (Or.inr (Or.inl rfl)) (hbW.out.cell (Or.inr (Or.inl rfl)) hR1)
        have g3 := hk3.cell (Or.inr (Or.inr rfl)) hq
        have HKS := Lib.hid hk3
        have HL := Lib.hid hl'
        have HR3 := Lib.hid hr'
        clear hk3 hl' hr'
        gi_wp2
        go_roundw
        case rel => exact ⟨pre ++ [q], rest, q', rfl, by simp [hx], IsCur.keep HKS.out HR3.out, hJ3, hbW.out.trans HKS.out⟩
        case measure => rw [leftR_eq (IsCur.keep HKS.out HR3.out), leftR_eq HL.out]; simp
      · gi_wp2
        refine bodyPost_ret (results_none rfl _ _ _) rfl ?_
        exact ⟨⟨_, rfl⟩, .inr ⟨pre ++ [q], ⟨rest, by simp [hx]⟩, hJx3⟩⟩
theorem order_in (F : Fence) (n : Nat) (h5 : F.fn 52) (hro : F.round = none) (r : Nat) (w : World) :
    CallsIn F n Try.prog 52 #[.pointer (some ⟨r, 0, none⟩)] w fun e w' => e = .returned (.func (.func 55) #[] #[.pointer (some ⟨w.heap.size, 0, none⟩)]) ∧ w' = w.alloc (.cells #[.pointer (some ⟨r, 0, none⟩)] 62) := by
  refine callsIn_of_wp Try.func52 rfl h5 ?_ hro
  simp only [Try.ntmps52, List.size_toArray, List.length_cons, List.length_nil, Nat.reduceAdd, Nat.reduceSub, Array.replicate_succ, Array.replicate_zero, List.push_toArray, List.append_toArray, List.nil_append, List.cons_append]
  gi_wp2
  go_ret
  exact ⟨rfl, rfl⟩
/-- the numbers of a row -/
abbrev Nm (M : Nat) := { n : Nat // n ≤ M }
def nums {M : Nat} (l : List (Nm M)) : List Nat := l.map (·.1)
theorem nums_snoc {M : Nat} (l : List (Nm M)) (x : Nm M) : nums (l ++ [x]) = nums l ++ [x.1] := by simp [nums]
theorem order_stops (F : Fence) (n : Nat) (h6 : F.fn 55) (hro : F.round = none) (hn : 1 ≤ n) (Bn r g M c0 : Nat) (hM : M ≤ 64) (xs : List Nat) (w : World)
    (hB1 : w.cell? ⟨Bn, 0, none⟩ = some (.pointer (some ⟨r, 0, none⟩))) (hR1 : w.cell? ⟨r, 0, none⟩ = some (.slice (some ⟨g, 0, none⟩) (M + 1) (M + 1))) (hC : w.cell? ⟨g, 35, none⟩ = some (.int .i64 (c0 : Nat))) (hL : IsCur g M w c0 xs) :
    SeqStopsK F n Try.prog 55 #[.pointer (some ⟨Bn, 0, none⟩)] (fun x : Nm M => #[Value.int .i64 (x.1 : Nat)]) (KS Bn r g) (fun ys => nums ys = xs) (fun pre => nums pre <+: xs) xs.length w := fun l J Jx W hW _ _ hY h0 =>
  (order1_in F n h6 hro hn l Bn r g M c0 hM xs (fun p W => ∃ p' : List (Nm M), nums p' = p ∧ J p' W) (fun p W => ∃ p' : List (Nm M), nums p' = p ∧ Jx p' W)
    (fun pre x W hx hJ hlen => by
      obtain ⟨p', rfl, hJ'⟩ := hJ
      have := hY p' ⟨x, hx⟩ W hJ' (by simpa [nums] using hlen)
      exact this.mono fun e W' h => by
        rcases h with ⟨h1, h2, h3⟩ | ⟨h1, h2⟩
        · exact Or.inl ⟨h1, ⟨_, nums_snoc _ _, h2⟩, h3⟩
        · exact Or.inr ⟨h1, ⟨_, nums_snoc _ _, h2⟩⟩)
    W ((hW.cell (p := ⟨Bn, 0, none⟩) (cell_lt hB1)).trans hB1) ((hW.cell (p := ⟨r, 0, none⟩) (cell_lt hR1)).trans hR1) ((hW.cell (p := ⟨g, 35, none⟩) (cell_lt hC)).trans hC) (hL.below (cell_lt hC) hW) ⟨[], rfl, h0⟩).mono fun e W' h => by
      obtain ⟨h1, h2⟩ := h
      refine ⟨h1, ?_⟩
      rcases h2 with ⟨ys, rfl, p', h3, h4⟩ | ⟨pre, h3, p', rfl, h4⟩
      · exact Or.inl ⟨p', h3, h4⟩
      · exact Or.inr ⟨p', h3, h4⟩
/-- what a ring shows from its head on -/
theorem RowB.cur {O : Nat → Prop} {r g M mb fc : Nat} {FA : Option Addr} {E : Nat → Ent} {D : Nat → Sl} {ns fs : List Nat} {w : World} (h : RowB w O r g M mb FA fc E D ns fs) :
    ∃ c0 : Nat, w.cell? ⟨r, 0, none⟩ = some (.slice (some ⟨g, 0, none⟩) (M + 1) (M + 1)) ∧ w.cell? ⟨g, 35, none⟩ = some (.int .i64 (c0 : Nat)) ∧ IsCur g M w c0 ns := by
  obtain ⟨ah, bh, hl, hc⟩ := h.link
  have := hl.bh 0 (Nat.zero_le _)
  rw [Nat.zero_mul, Nat.zero_add] at this
  exact ⟨bh 0, hl.c0, this, cur_of_chain hl ns 0 hc (fun n hn => h.mem (Or.inl hn))⟩
end Go.Proofs.Ytnmifaohmafobaa.st
