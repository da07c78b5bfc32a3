/- Digests compared. -/
import Derived.Test.YtbcgnacfhpahkaaDoorDgI
import Derived.ChangeKeysEq
namespace Go.Proofs.YtbcgnacfhpahkaaDoor.dg
open Go.RowKit Mem DM
set_option linter.unusedVariables false
theorem part_u8 (l : List UInt8) (i : Nat) (h : i < l.length) (w : World) : (part 5 (bv l).toArray (i * 1)).run Tryd.prog w = .ok (.int .u8 ((l[i]).toNat : Int)) w := by
  have hs := u8size w
  have ha : (isAgg 5).run Tryd.prog w = .ok false w := by
    unfold isAgg
    rw [Sem.run_bind, run_underlying Tryd.underlying5 w]
    rfl
  have hb := bv_at l i h
  unfold part
  rw [Sem.run_bind, ha]
  simp [hb]
theorem eq_items (d : Nat) (l r : List UInt8) (w : World) : ∀ is : List Nat, (∀ i ∈ is, i < l.length ∧ i < r.length) → (Op.eqItems (d + 1) 5 1 (bv l).toArray (bv r).toArray is).run Tryd.prog w = .ok (is.all fun i => decide (l.getD i 0 = r.getD i 0)) w
  | [], _ => by simp [Op.eqItems]
  | i :: is, h => by
    obtain ⟨h1, h2⟩ := h i (by simp)
    have ih := eq_items d l r w is (fun j hj => h j (by simp [hj]))
    have e1 := part_u8 l i h1 w
    have e2 := part_u8 r i h2 w
    have e3 := run_equalIn_int (P := Tryd.prog) w d 5 .u8 .u8 ((l[i]).toNat : Int) ((r[i]).toNat : Int) Tryd.underlying5
    simp only [Op.eqItems, Sem.run_bind, e1, e2, e3, Result.andThen_ok]
    have hg : decide (l.getD i 0 = r.getD i 0) = (((l[i]).toNat : Int) == ((r[i]).toNat : Int)) := by
      have a1 : l.getD i 0 = l[i] := by simp [h1]
      have a2 : r.getD i 0 = r[i] := by simp [h2]
      rw [a1, a2]
      by_cases he : l[i] = r[i]
      · simp [he]
      · have : ¬ ((l[i]).toNat : Int) = ((r[i]).toNat : Int) := fun e => he (UInt8.toNat_inj.1 (by omega))
        simp [he, this]
    rw [List.all_cons, hg]
    cases hb : (((l[i]).toNat : Int) == ((r[i]).toNat : Int))
    · simp
    · simp [ih]
theorem all_range (l r : List UInt8) (n : Nat) (hl : l.length = n) (hr : r.length = n) : ((List.range n).all fun i => decide (l.getD i 0 = r.getD i 0)) = decide (l = r) := by
  by_cases h : l = r
  · subst h; simp
  · rw [decide_eq_false h]
    cases hb : ((List.range n).all fun i => decide (l.getD i 0 = r.getD i 0)) with
    | false => rfl
    | true =>
      refine absurd (List.ext_getElem (by omega) fun i h1 h2 => ?_) h
      have := List.all_eq_true.1 hb i (List.mem_range.2 (by omega))
      have := of_decide_eq_true this
      simpa [h1, h2] using this
theorem sum_equal (l r : List UInt8) (hl : l.length = 32) (hr : r.length = 32) (w : World) : (Op.equalIn 10000 23 (.agg (bv l).toArray) (.agg (bv r).toArray)).run Tryd.prog w = .ok (decide (l = r)) w := by
  obtain ⟨i, hi, _⟩ := u8ty.hi
  have hc : Tryd.prog.cellsOf 5 = 1 := by kernel_rfl
  have := run_equalIn_array (P := Tryd.prog) w 9999 (t := 23) (n := 32) (bv l).toArray (bv r).toArray Tryd.underlying23 hi
  rw [hc] at this
  rw [this, eq_items 9998 l r w (List.range 32) (fun i hi => by have := List.mem_range.1 hi; omega), all_range l r 32 hl hr]
theorem sum_eql (l r : List UInt8) (hl : l.length = 32) (hr : r.length = 32) (w : World) : (binOp .eql 23 (.agg (bv l).toArray) (.agg (bv r).toArray)).run Tryd.prog w = .ok (.bool (decide (l = r))) w := by
  rw [run_eql_struct, sum_equal l r hl hr w]
  rfl
theorem sum_neq (l r : List UInt8) (hl : l.length = 32) (hr : r.length = 32) (w : World) : (binOp .neq 23 (.agg (bv l).toArray) (.agg (bv r).toArray)).run Tryd.prog w = .ok (.bool (!decide (l = r))) w := by
  rw [run_neq_struct, sum_equal l r hl hr w]
  rfl
end Go.Proofs.YtbcgnacfhpahkaaDoor.dg
