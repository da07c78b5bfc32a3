/- The examples of rabin, and the table that the statements take. -/
import Derived.Test.YtjmgokjflfhohaaCRbH
namespace Go.Proofs.Ytjmgokjflfhohaa.rb
open Go.RowKit Mem
set_option linter.unusedVariables false
variable {w w' : World} {b p : Nat} {d s : Int} {A F : Nat → Nat}
theorem rd_alloc (w : World) (E : TypeId) (cs : List Value) (fr : Nat × Nat) : Rd (w.alloc (.cells cs.toArray E fr)) (w.heap.size + 1) (some ⟨w.heap.size, 0, none⟩) cs.length cs := by
  refine ⟨rfl, fun _ => ⟨_, 0, rfl, by omega, fun i hi => ?_⟩⟩
  have h : (w.alloc (.cells cs.toArray E fr)).heap[w.heap.size]? = some (.cells cs.toArray E fr) := by
    show (w.heap.push _)[w.heap.size]? = _
    simp
  unfold World.cell?
  rw [h]
  simp
theorem below_of_grown' {B : Nat} {w0 : World} (h : Below B w0 w) (hg : Grown b w w') (hB : B ≤ b ∧ B ≤ w.heap.size) : Below B w0 w' :=
  h.grown hg hB.2 (fun k e => by injection e with e; omega)
theorem Grown.rd_far {B n : Nat} {A : Option Addr} {xs : List Value} (h : Grown b w w') (hr : Rd w B A n xs) (hB : B ≤ w.heap.size) (hne : ∀ a, A = some a → a.block ≠ b) : Rd w' B A n xs := by
  refine ⟨hr.len, fun hn => ?_⟩
  obtain ⟨c, off, rfl, hc, hcell⟩ := hr.addr hn
  refine ⟨c, off, rfl, hc, fun k hk => ?_⟩
  have hx := hne _ rfl
  rw [h.cell (a := ⟨c, off + k, none⟩) hx (show c < w.heap.size by omega)]
  exact hcell k hk
/-- the cells of a fresh table -/
theorem fresh_eq : Try.zeroCells75 = #[.int .u64 0, .int .u32 0, .int .i32 0, .int .u32 0] ++ Array.replicate 512 (.int .u64 0) := by kernel_rfl
theorem fresh_size (p : Nat) : (freshT p).size = 516 := by unfold freshT; rw [Array.size_setIfInBounds, fresh_eq]; simp
theorem fresh_get (p i : Nat) (h1 : 4 ≤ i) (h2 : i < 516) : (freshT p)[i]? = some (.int .u64 0) := by
  unfold freshT
  rw [Array.getElem?_setIfInBounds, if_neg (by omega), fresh_eq, Array.getElem?_append_right (by simp; omega), Array.getElem?_replicate]
  rw [if_pos (by simp; omega)]
theorem fresh_tab (p : Nat) (w : World) : TabB (w.alloc (.cells (freshT p) 75)) w.heap.size p 0 0 (fun _ => 0) (fun _ => 0) := by
  have hc : ∀ i, i < 516 → (w.alloc (.cells (freshT p) 75)).cell? ⟨w.heap.size, i, none⟩ = (freshT p)[i]? := by
    intro i hi
    have := fresh_size p
    go_simp
  refine ⟨?_, ?_, ?_, ?_, ?_, ?_⟩
  · rw [hc 0 (by omega)]; unfold freshT; rw [Array.getElem?_setIfInBounds, if_pos rfl, fresh_eq]; simp
  · rw [hc 1 (by omega)]; unfold freshT; rw [Array.getElem?_setIfInBounds, if_neg (by omega), fresh_eq]; simp
  · rw [hc 2 (by omega)]; unfold freshT; rw [Array.getElem?_setIfInBounds, if_neg (by omega), fresh_eq]; simp
  · intro i hi; rw [hc (4 + i) (by omega), fresh_get p _ (by omega) (by omega)]; rfl
  · intro i hi; rw [hc (260 + i) (by omega), fresh_get p _ (by omega) (by omega)]; rfl
  · intro o; go_simp
theorem u64_nat {n : Int} (h : (Lit.int .u64 n).wf = true) : ∃ a : Nat, n = (a : Nat) ∧ a < 18446744073709551616 := by
  have : 0 ≤ n ∧ n ≤ 18446744073709551615 := by simpa [Lit.wf, IntKind.min, IntKind.max, IntKind.signed, IntKind.bits] using h
  exact ⟨n.toNat, by omega, by omega⟩
end Go.Proofs.Ytjmgokjflfhohaa.rb
