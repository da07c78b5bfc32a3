/- A store: the law's digest of a number; what digests are equal. -/
import Derived.Test.YtnmifaohmafobaaStQ
import Derived.ChangeKeysEq
namespace Go.Proofs.Ytnmifaohmafobaa.st
open Go.RowKit Go.Shelf Mem SM
set_option linter.unusedVariables false
attribute [local go_sem] Oper.semAt_some
variable {w w' : World} {O : Nat → Prop} {s M R : Nat} {L : List Ent}
theorem rng_new (w : World) (cs : List Value) (t : TypeId) : (w.alloc (.cells cs.toArray t)).rangeAt w.heap.size 0 cs := by
  intro j v hj
  have h : (w.alloc (.cells cs.toArray t)).heap[w.heap.size]? = some (.cells cs.toArray t) := by
    show (w.heap.push _)[w.heap.size]? = _
    simp
  unfold World.cell?
  rw [h]
  simpa using hj
theorem World.frozen?_new' {cs : Array Value} {t : TypeId} {b o : Nat} (h : w.heap[b]? = some (.cells cs t)) : w.frozen? ⟨b, o, none⟩ = false := by
  unfold World.frozen?
  rw [h]
  simp
theorem rng_below {w w' : World} {B b o : Nat} {cs : List Value} (h : w.rangeAt b o cs) (hb : Below B w w') (hlt : b < B) : w'.rangeAt b o cs := fun j v hj => (hb.cell (p := ⟨b, o + j, none⟩) hlt).trans (h j v hj)
theorem thr_below {w w' : World} {B b o n : Nat} (h : w.there b o n) (hb : Below B w w') (hlt : b < B) (hl : b < w.heap.size) : w'.there b o n := fun j hj =>
  ⟨by rw [hb.cell (p := ⟨b, o + j, none⟩) hlt]; exact (h j hj).1, by rw [World.frozen?_of_block (w := w) (hb.block b hlt)]; exact (h j hj).2⟩
theorem rng_set {b i : Nat} {cs : List Value} (h : w.rangeAt b 0 cs) (hi : i < cs.length) (v : Value) : (w.setCell ⟨b, i, none⟩ v).rangeAt b 0 (cs.set i v) := fun j u hj => by
  by_cases e : i = j
  · subst e
    rw [List.getElem?_set_self hi] at hj
    injection hj with hj
    subst hj
    have := h i cs[i] (List.getElem?_eq_getElem hi)
    rw [Nat.zero_add] at this ⊢
    exact World.cell?_setCell_same _ _ _ this
  · rw [List.getElem?_set_ne e] at hj
    rw [World.cell?_setCell_other _ _ _ _ (fun e2 => by injection e2 with _ e3; omega)]
    exact h j u hj
theorem thr_far {b b2 n : Nat} (h : w.there b 0 n) (hne : b ≠ b2) (i : Nat) (v : Value) : (w.setCell ⟨b2, i, none⟩ v).there b 0 n := fun j hj =>
  ⟨by rw [World.cell?_setCell_far _ _ _ _ (fun e => hne e.symm)]; exact (h j hj).1, by rw [frozen_set]; exact (h j hj).2⟩
theorem results_row {P : Program} {w : World} {fn : Func} {a : Tmp} {t : TypeId} (h : fn.results = #[.cell a t]) (tmps : Array Value) (b o : Nat) (cs : List Value) (d : TypeDesc) (ha : tmps.getD a undef = .pointer (some ⟨b, o, none⟩))
    (hc : w.rangeAt b o cs) (hu : P.underlying t = some d) (hd : d.isRow = true) (hi : (P.info? t).map (·.size) = some cs.length) : (results fn tmps).run P w = .ok (.agg cs.toArray) w := by
  have := run_loadVar_mid (P := P) w b o t cs d hc hu hd hi
  have ha2 : tmps[a]?.getD undef = .pointer (some ⟨b, o, none⟩) := by simpa using ha
  simp [results, h, ha2, asAddr, this]
/-- the law's digest of a number -/
def sumOf (n : Int) : List UInt8 := (((List.replicate 32 (0 : UInt8)).set 0 (UInt8.ofNat (n % 256).toNat)).set 1 (UInt8.ofNat (n / 256 % 256).toNat)).set 31 7
theorem sumOf_len (n : Int) : (sumOf n).length = 32 := by simp [sumOf]
theorem bv_set (l : List UInt8) (i : Nat) (x : UInt8) : bv (l.set i x) = (bv l).set i (.int .u8 (x.toNat : Nat)) := by simp [bv, List.map_set]
theorem u8_of (n : Int) : ((UInt8.ofNat (n % 256).toNat).toNat : Int) = n % 256 := by
  have h1 : 0 ≤ n % 256 := Int.emod_nonneg _ (by decide)
  have h2 : n % 256 < 256 := Int.emod_lt_of_pos _ (by decide)
  rw [UInt8.toNat_ofNat_of_lt' (by show (n % 256).toNat < 256; omega)]
  omega
def z32 : List Value := bv (List.replicate 32 0)
theorem sumOf_bv (n : Int) : ((z32.set 0 (.int .u8 (n % 256))).set 1 (.int .u8 (n / 256 % 256))).set 31 (.int .u8 7) = bv (sumOf n) := by
  unfold sumOf
  rw [bv_set, bv_set, bv_set, u8_of, u8_of]
  rfl
set_option maxRecDepth 100000 in
theorem sum_of (n : Int) (w : World) :
    Calls Try.prog 19 #[.int .i64 n] w fun e W' => e = .returned (.agg (bv (sumOf n)).toArray) ∧ Below w.heap.size w W' := by
  obtain ⟨W, hW⟩ : ∃ W, W = (w.alloc (.cells z32.toArray 40)).alloc (.cells z32.toArray 40) := ⟨_, rfl⟩
  obtain ⟨g, hg⟩ : ∃ g, g = w.heap.size := ⟨_, rfl⟩
  have hWB : Below w.heap.size w W := by rw [hW]; exact ((Below.refl _ _).alloc (Nat.le_refl _) _).alloc (by simp) _
  have hz32 : z32.length = 32 := by simp [z32, bv_len]
  have hsz : (w.alloc (.cells z32.toArray 40)).heap.size = g + 1 := by rw [hg]; simp
  have hb1 : W.rangeAt (g + 1) 0 z32 := by
    have h1 := rng_new (w.alloc (.cells z32.toArray 40)) z32 40
    rw [← hW, hsz] at h1
    exact h1
  have hfz : ∀ o, W.frozen? ⟨g + 1, o, none⟩ = false := fun o => by
    have h : W.heap[g + 1]? = some (.cells z32.toArray 40) := by
      rw [hW, ← hsz]
      exact World.alloc_heap_new _ _
    exact World.frozen?_new' h
  have hb0 : W.there g 0 32 := by
    have h2 := there_fresh w z32.toArray 40 32 (by simp [hz32])
    rw [← hg] at h2
    rw [hW]
    exact thr_below h2 ((Below.refl _ _).alloc (Nat.le_refl _) _) (by simp; omega) (by simp; omega)
  have k0 := hb1 0 (.int .u8 0) rfl
  have k1 := hb1 1 (.int .u8 0) rfl
  have k31 := hb1 31 (.int .u8 0) rfl
  simp only [Nat.zero_add] at k0 k1 k31
  have hr3 := rng_set (rng_set (rng_set hb1 (i := 0) (by rw [hz32]; decide) (.int .u8 (n % 256))) (i := 1) (by rw [List.length_set, hz32]; decide) (.int .u8 (n / 256 % 256))) (i := 31) (by rw [List.length_set, List.length_set, hz32]; decide) (.int .u8 7)
  rw [sumOf_bv] at hr3
  have f0 := hfz 0
  have f1 := hfz 1
  have f31 := hfz 31
  have hWs : w.heap.size ≤ W.heap.size := hWB.size
  have hone := bv_one (sumOf n)
  obtain ⟨S, hS⟩ : ∃ S, bv (sumOf n) = S := ⟨_, rfl⟩
  have hSl : S.length = 32 := by rw [← hS, bv_len, sumOf_len]
  rw [hS] at hr3 hone
  have hz3 := thr_far (thr_far (thr_far hb0 (by omega : g ≠ g + 1) 0 (.int .u8 (n % 256))) (by omega : g ≠ g + 1) 1 (.int .u8 (n / 256 % 256))) (by omega : g ≠ g + 1) 31 (.int .u8 7)
  have hb3 := ((hWB.setCell (p := ⟨g + 1, 0, none⟩) (by show w.heap.size ≤ g + 1; omega) (.int .u8 (n % 256))).setCell (p := ⟨g + 1, 1, none⟩) (by show w.heap.size ≤ g + 1; omega) (.int .u8 (n / 256 % 256))).setCell (p := ⟨g + 1, 31, none⟩) (by show w.heap.size ≤ g + 1; omega) (.int .u8 7)
  have HZ3 := Lib.hid hz3
  have HB3 := Lib.hid hb3
  have HW := Lib.hid hW
  have HG := Lib.hid hg
  have HS := Lib.hid hS
  clear hW hg hS hWB hb0 hb1 hfz hz3 hb3
  go_enter Try.func19, Try.ntmps19
  go_upto_region 2 with fail
  show Code.wp _ _ _ _ ((w.alloc (.cells z32.toArray 40)).alloc (.cells z32.toArray 40))
  rw [← HW.out, ← HG.out]
  go_upto_region 3 with fail
  go_wp2_with (first
    | (refine wpList_load_mid rfl 40 (.tmp 3) rfl (g + 1) 0 rfl S _ hr3 Try.underlying40 rfl (by rw [hSl]; kernel_rfl) ?_)
    | (refine wpList_store_mid rfl 40 (.tmp 2) (.tmp 12) rfl g 0 S.toArray rfl rfl (by rw [List.size_toArray, hSl]; exact HZ3.out) (by rw [List.size_toArray, hSl]; kernel_rfl) (all_oneCell_toArray hone) ?_)
    | fail)
  refine bodyPost_ret (v := .agg S.toArray) ?_ rfl ?_
  · exact results_row rfl _ g 0 S _ rfl (World.rangeAt_setCells_same _ g 0 S (by rw [hSl]; exact HZ3.out)) Try.underlying40 rfl (by rw [hSl]; kernel_rfl)
  · refine ⟨by rw [HS.out], ?_⟩
    exact HB3.out.trans (below_setCells (by rw [HG.out]; exact Nat.le_refl _) S 0 _)
theorem u8size (w : World) : (sizeOf 5).run Try.prog w = .ok 1 w := by
  obtain ⟨i, hi, hz, hsz, hby⟩ := u8ty.hi
  simp [sizeOf, typeInfo, hi, hsz]
theorem part_u8 (l : List UInt8) (i : Nat) (h : i < l.length) (w : World) : (part 5 (bv l).toArray (i * 1)).run Try.prog w = .ok (.int .u8 ((l[i]).toNat : Int)) w := by
  have hs := u8size w
  have ha : (isAgg 5).run Try.prog w = .ok false w := by
    unfold isAgg
    rw [Sem.run_bind, run_underlying Try.underlying5 w]
    rfl
  have hb := bv_at l i h
  unfold part
  rw [Sem.run_bind, ha]
  simp [hb]
theorem eq_items (d : Nat) (l r : List UInt8) (w : World) : ∀ is : List Nat, (∀ i ∈ is, i < l.length ∧ i < r.length) → (Op.eqItems (d + 1) 5 1 (bv l).toArray (bv r).toArray is).run Try.prog w = .ok (is.all fun i => decide (l.getD i 0 = r.getD i 0)) w
  | [], _ => by simp [Op.eqItems]
  | i :: is, h => by
    obtain ⟨h1, h2⟩ := h i (by simp)
    have ih := eq_items d l r w is (fun j hj => h j (by simp [hj]))
    have e1 := part_u8 l i h1 w
    have e2 := part_u8 r i h2 w
    have e3 := run_equalIn_int (P := Try.prog) w d 5 .u8 .u8 ((l[i]).toNat : Int) ((r[i]).toNat : Int) Try.underlying5
    simp only [Op.eqItems, Sem.run_bind, e1, e2, e3, Result.andThen_ok]
    have hg : decide (l.getD i 0 = r.getD i 0) = (((l[i]).toNat : Int) == ((r[i]).toNat : Int)) := by
      have a1 : l.getD i 0 = l[i] := by simp [h1]
      have a2 : r.getD i 0 = r[i] := by simp [h2]
      rw [a1, a2]
      by_cases he : l[i] = r[i]
      · simp [he]
      · have : ¬ ((l[i]).toNat : Int) = ((r[i]).toNat : Int) := fun e => he (UInt8.toNat_inj.1 (by omega))
        simp [he, this]
    rw [List.all_cons, hg]
    cases hb : (((l[i]).toNat : Int) == ((r[i]).toNat : Int))
    · simp
    · simp [ih]
theorem all_range (l r : List UInt8) (n : Nat) (hl : l.length = n) (hr : r.length = n) : ((List.range n).all fun i => decide (l.getD i 0 = r.getD i 0)) = decide (l = r) := by
  by_cases h : l = r
  · subst h; simp
  · rw [decide_eq_false h]
    cases hb : ((List.range n).all fun i => decide (l.getD i 0 = r.getD i 0)) with
    | false => rfl
    | true =>
      refine absurd (List.ext_getElem (by omega) fun i h1 h2 => ?_) h
      have := List.all_eq_true.1 hb i (List.mem_range.2 (by omega))
      have := of_decide_eq_true this
      simpa [h1, h2] using this
theorem sum_equal (l r : List UInt8) (hl : l.length = 32) (hr : r.length = 32) (w : World) : (Op.equalIn 10000 40 (.agg (bv l).toArray) (.agg (bv r).toArray)).run Try.prog w = .ok (decide (l = r)) w := by
  obtain ⟨i, hi, _⟩ := u8ty.hi
  have hc : Try.prog.cellsOf 5 = 1 := by kernel_rfl
  have := run_equalIn_array (P := Try.prog) w 9999 (t := 40) (n := 32) (bv l).toArray (bv r).toArray Try.underlying40 hi
  rw [hc] at this
  rw [this, eq_items 9998 l r w (List.range 32) (fun i hi => by have := List.mem_range.1 hi; omega), all_range l r 32 hl hr]
theorem sum_eql (l r : List UInt8) (hl : l.length = 32) (hr : r.length = 32) (w : World) : (binOp .eql 40 (.agg (bv l).toArray) (.agg (bv r).toArray)).run Try.prog w = .ok (.bool (decide (l = r))) w := by
  rw [run_eql_struct, sum_equal l r hl hr w]
  rfl
theorem sum_neq (l r : List UInt8) (hl : l.length = 32) (hr : r.length = 32) (w : World) : (binOp .neq 40 (.agg (bv l).toArray) (.agg (bv r).toArray)).run Try.prog w = .ok (.bool (!decide (l = r))) w := by
  rw [run_neq_struct, sum_equal l r hl hr w]
  rfl
end Go.Proofs.Ytnmifaohmafobaa.st
