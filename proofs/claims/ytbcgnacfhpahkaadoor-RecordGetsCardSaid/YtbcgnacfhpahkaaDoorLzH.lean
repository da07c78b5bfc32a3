/- lz: bytes as they are, piece by piece: a range over a function. -/
import Derived.Test.YtbcgnacfhpahkaaDoorLzG
import Derived.RangeFuncNested
import Derived.RangeFuncBound
import Derived.RangeFuncCalls
import Derived.RangeFuncLeaves
import Derived.RangeFuncBox
import Derived.Shelf.Abstract
import Derived.Shelf.RegionOpen
import Derived.OwnWalkIn
import Derived.TacticsInMore
import Derived.LoopNIn
import Derived.LoopIn
import Derived.Maps.AppendAt
import Derived.Lib.MinMax
namespace Go.Proofs.YtbcgnacfhpahkaaDoor.lz
set_option maxRecDepth 20000
open Go.RowKit Go.Shelf Mem OM LM oct
set_option linter.unusedVariables false
attribute [local go_sem] Oper.semAt_some
/-- this block is as it was -/
structure KS1 (a : Nat) (W W' : World) : Prop where
  size : W.heap.size ≤ W'.heap.size
  same : ∀ k, k < W.heap.size → k = a → W'.heap[k]? = W.heap[k]?
theorem KS1.refl (a : Nat) (W : World) : KS1 a W W := ⟨Nat.le_refl _, fun _ _ _ => rfl⟩
theorem KS1.trans {a : Nat} {A B C : World} (h : KS1 a A B) (k : KS1 a B C) : KS1 a A C := ⟨Nat.le_trans h.size k.size, fun i hi hs => (k.same i (Nat.lt_of_lt_of_le hi h.size) hs).trans (h.same i hi hs)⟩
theorem KS1.put {a : Nat} {w : World} (ha : a < w.heap.size) (W : World) (l : Nat) (o o' : Obj) (hl : w.heap.size ≤ l) (h : W.heap[l]? = some o) (_ : o.isCells = false) (_ : o.isWalk = false) : KS1 a W (W.putObj l o') :=
  ⟨by simp, fun k hk hs => World.putObj_heap_other (by omega)⟩
theorem KS1.cell {a : Nat} {W W' : World} (h : KS1 a W W') {p : Addr} (hp : p.block = a) {v : Value} (hv : W.cell? p = some v) : W'.cell? p = some v :=
  (World.cell?_of_block (w := W) (h.same p.block (World.block_lt_of_cell? W _ hv) hp)).trans hv
/-- the numbers of the pieces of n bytes -/
abbrev Pc (n : Nat) := { i : Nat // 128 * i < n }
def pl (n i : Nat) : Nat := min 128 (n - 128 * i)
def pv (g off n i : Nat) : Value := .slice (some ⟨g, off + 128 * i, none⟩) (pl n i) (pl n i)
def idx {n : Nat} (l : List (Pc n)) : List Nat := l.map (·.1)
theorem idx_snoc {n : Nat} (l : List (Pc n)) (x : Pc n) : idx (l ++ [x]) = idx l ++ [x.1] := by simp [idx]
def cnt (n : Nat) : Nat := (n + 127) / 128
set_option maxRecDepth 100000 in
set_option maxHeartbeats 2000000 in
theorem pieces1_in (F : Fence) (m : Nat) (h6 : F.fn 92) (hro : F.round = none) (hm : 1 ≤ m) (l Bn g off n c2 : Nat) (A2 : Option Addr) (hA : 0 < n → A2 = some ⟨g, off, none⟩) (hnc : n ≤ c2) (hn : n ≤ 1048576) (J Jx : List (Pc n) → World → Prop)
    (hY : ∀ pre (x : Pc n) W, J pre W → pre.length < cnt n → YieldAt F (m - 1) Tryd.prog l #[pv g off n x.1] W fun e W' =>
      (e = .returned (.bool true) ∧ J (pre ++ [x]) W' ∧ KS1 Bn W W') ∨ (e = .returned (.bool false) ∧ Jx (pre ++ [x]) W'))
    (W : World) (hB1 : W.cell? ⟨Bn, 0, none⟩ = some (.slice A2 n c2)) (h0 : J [] W) :
    CallsIn F m Tryd.prog 92 #[.func (.yield l) #[] #[], .pointer (some ⟨Bn, 0, none⟩)] W fun e W' => (∃ v, e = .returned v) ∧
      ((∃ ys : List (Pc n), idx ys = List.range (cnt n) ∧ J ys W') ∨ (∃ pre : List (Pc n), True ∧ Jx pre W')) := by
  refine callsIn_of_wp Tryd.func92 rfl h6 ?_ hro
  simp only [Tryd.ntmps92, List.size_toArray, List.length_cons, List.length_nil, Nat.reduceAdd, Nat.reduceSub, Array.replicate_succ, Array.replicate_zero, List.push_toArray, List.append_toArray, List.nil_append, List.cons_append]
  gi_wp2
  gi_loopw [3] (fun p wr => ∃ (pre : List (Pc n)) (j : Nat), p = .int .i64 ((128 * j : Nat) : Int) ∧ idx pre = List.range j ∧ j ≤ cnt n ∧ J pre wr ∧ Hid (KS1 Bn W wr))
    (fun p wr => n + 128 - (intOf p).toNat)
  case atStart => exact ⟨[], 0, rfl, rfl, Nat.zero_le _, h0, Lib.hid (KS1.refl _ _)⟩
  case round =>
    obtain ⟨pre, j, rfl, hix, hjc, hJs, hbW⟩ := hrel
    have hcell := hbW.out.cell rfl hB1
    by_cases hlt : 128 * j < n
    · have hli : ((128 * j : Nat) : Int) < (n : Int) := by omega
      have hpl : pre.length = j := by have := congrArg List.length hix; simpa [idx] using this
      have hjc2 : j < cnt n := by unfold cnt; omega
      obtain ⟨fn, tmps, assign, body, hy, hR⟩ := hY pre ⟨j, hlt⟩ wr hJs (by omega)
      obtain ⟨q, hq⟩ : ∃ q, pl n j = q := ⟨_, rfl⟩
      have hq1 : min (((128 * j : Nat) : Int) + 128) (n : Int) = ((128 * j + q : Nat) : Int) := by unfold pl at hq; omega
      have hq2 : 128 * j + q ≤ n ∧ 1 ≤ q := by unfold pl at hq; omega
      have HQ := Lib.hid hq
      have hAs := hA (by omega)
      subst hAs
      unfold pv at hy
      rw [hq] at hy
      obtain ⟨fr, hfr⟩ : ∃ fr, 128 * j = fr := ⟨_, rfl⟩
      rw [hfr] at hq1 hq2 hli hlt hy ⊢
      have hcut : ¬ fr + q = fr := by omega
      have HFR := Lib.hid hfr
      clear hq hfr hA
      gi_wp2
      refine hR.mono ?_
      rintro e W3 (⟨rfl, hJ3, hk3⟩ | ⟨rfl, hJx3⟩)
      · have g1 := hk3.cell rfl hcell
        have HKS := Lib.hid hk3
        have hix2 : idx (pre ++ [⟨j, by have := HFR.out; omega⟩] : List (Pc n)) = List.range (j + 1) := by rw [idx_snoc, hix, List.range_succ]
        have HIX := Lib.hid hix2
        clear hk3 hix2
        gi_wp2
        go_roundw
        case rel => exact ⟨_, j + 1, by have := HFR.out; congr 1; omega, HIX.out, by omega, hJ3, Lib.hid (hbW.out.trans HKS.out)⟩
        case measure => simp only [intOf]; omega
      · gi_wp2
        refine bodyPost_ret (results_none rfl _ _ _) rfl ?_
        exact ⟨⟨_, rfl⟩, .inr ⟨_, trivial, hJx3⟩⟩
    · have hli : ¬ ((128 * j : Nat) : Int) < (n : Int) := by omega
      have hje : j = cnt n := by unfold cnt at *; omega
      gi_wp2
      go_end0
      exact ⟨⟨_, rfl⟩, .inl ⟨pre, by rw [hix, hje], hJs⟩⟩
theorem pieces_in (F : Fence) (m : Nat) (h5 : F.fn 82) (hro : F.round = none) (A2 : Option Addr) (n c2 : Nat) (w : World) :
    CallsIn F m Tryd.prog 82 #[.slice A2 n c2] w fun e w' => e = .returned (.func (.func 92) #[] #[.pointer (some ⟨w.heap.size, 0, none⟩)]) ∧ w' = w.alloc (.cells #[.slice A2 n c2] 24) := by
  refine callsIn_of_wp Tryd.func82 rfl h5 ?_ hro
  simp only [Tryd.ntmps82, List.size_toArray, List.length_cons, List.length_nil, Nat.reduceAdd, Nat.reduceSub, Array.replicate_succ, Array.replicate_zero, List.push_toArray, List.append_toArray, List.nil_append, List.cons_append]
  gi_wp2
  go_ret
  exact ⟨rfl, rfl⟩
theorem pieces_stops (F : Fence) (m : Nat) (h6 : F.fn 92) (hro : F.round = none) (hm : 1 ≤ m) (Bn g off n c2 : Nat) (A2 : Option Addr) (hA : 0 < n → A2 = some ⟨g, off, none⟩) (hnc : n ≤ c2) (hn : n ≤ 1048576) (w : World)
    (hB1 : w.cell? ⟨Bn, 0, none⟩ = some (.slice A2 n c2)) :
    SeqStopsK F m Tryd.prog 92 #[.pointer (some ⟨Bn, 0, none⟩)] (fun x : Pc n => #[pv g off n x.1]) (KS1 Bn) (fun ys => idx ys = List.range (cnt n)) (fun _ => True) (cnt n) w := fun l J Jx W hW _ _ hY h0 =>
  pieces1_in F m h6 hro hm l Bn g off n c2 A2 hA hnc hn J Jx hY W ((hW.cell (p := ⟨Bn, 0, none⟩) (World.block_lt_of_cell? w _ hB1)).trans hB1) h0
/-- a piece as a token -/
def ck (b : List UInt8) (i : Nat) : List UInt8 := UInt8.ofNat (pl b.length i - 1) :: (b.drop (128 * i)).take 128
def told (b : List UInt8) {n : Nat} (l : List (Pc n)) : List UInt8 := ((idx l).map (ck b)).flatten
theorem told_snoc (b : List UInt8) {n : Nat} (l : List (Pc n)) (x : Pc n) : told b (l ++ [x]) = told b l ++ ck b x.1 := by simp [told, idx_snoc]
theorem ck_len (b : List UInt8) : ∀ L : List Nat, ((L.map (ck b)).flatten).length ≤ 129 * L.length
  | [] => by simp
  | i :: L => by
    have := ck_len b L
    have h1 : (ck b i).length ≤ 129 := by simp only [ck, List.length_cons, List.length_take]; omega
    rw [List.map_cons, List.flatten_cons, List.length_append, List.length_cons]
    omega
theorem told_len (b : List UInt8) {n : Nat} (l : List (Pc n)) : (told b l).length ≤ 129 * l.length := by
  have := ck_len b (idx l)
  simpa [told, idx] using this
theorem lits_from (b : List UInt8) : ∀ (m j : Nat), j + m = cnt b.length → ((List.range' j m).map (ck b)).flatten = lits (b.drop (128 * j))
  | 0, j, h => by
    have : b.length ≤ 128 * j := by unfold cnt at h; omega
    rw [List.drop_eq_nil_of_le this, lits_nil]
    simp
  | m + 1, j, h => by
    have hl : 128 * j < b.length := by unfold cnt at h; omega
    have hne : b.drop (128 * j) ≠ [] := fun e => by
      have := congrArg List.length e
      simp at this
      omega
    rw [lits_cons _ hne, List.range'_succ, List.map_cons, List.flatten_cons, lits_from b m (j + 1) (by omega), List.drop_drop]
    unfold ck pl
    rw [List.length_take, List.length_drop, show 128 * j + 128 = 128 * (j + 1) by omega]
    simp
theorem told_all (b : List UInt8) (ys : List (Pc b.length)) (h : idx ys = List.range (cnt b.length)) : told b ys = lits b := by
  unfold told
  rw [h, List.range_eq_range', lits_from b (cnt b.length) 0 (by omega)]
  simp
end Go.Proofs.YtbcgnacfhpahkaaDoor.lz
