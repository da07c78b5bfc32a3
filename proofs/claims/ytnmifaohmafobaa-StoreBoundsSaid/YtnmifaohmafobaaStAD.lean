/- Stores beside each other. -/
import Derived.Test.YtnmifaohmafobaaStAC
namespace Go.Proofs.Ytnmifaohmafobaa.st
open Go.RowKit Go.Shelf Mem SM
set_option linter.unusedVariables false
variable {w0 w w' y z : World} {O Oa Ob Oc : Nat → Prop} {s M R : Nat} {L : List Ent}
/-- nothing is both's -/
def Sep (P Q : Nat → Prop) : Prop := ∀ i, P i → ¬ Q i
theorem Sep.symm {P Q : Nat → Prop} (h : Sep P Q) : Sep Q P := fun i hq hp => h i hp hq
theorem AtO.base {w1 : World} (h : AtO w1 w O s M R L) (hb : Below w0.heap.size w0 w1) : AtO w0 w O s M R L :=
  ⟨h.1, fun i hi => ⟨Nat.le_trans hb.size (h.2.1 i hi).1, (h.2.1 i hi).2⟩, hb.trans (h.2.2.mono hb.size)⟩
/-- a step of one leaves another as it was -/
theorem AtO.beside {Oa' : Nat → Prop} (h : AtO w0 y Ob s M R L) (hd : Sep Oa Ob) (k : Kept y z (fun i => Oa i ∨ y.heap.size ≤ i)) (ha : ∀ i, Oa i → w0.heap.size ≤ i) (ho : ∀ i, Oa' i → i < y.heap.size → Oa i) : AtO w0 z Ob s M R L ∧ Sep Oa' Ob := by
  refine ⟨⟨h.1.kept k (fun i hi hb e => ?_), fun i hi => ⟨(h.2.1 i hi).1, Nat.lt_of_lt_of_le (h.2.1 i hi).2 k.size⟩, h.2.2.trans (below_of_kept k h.2.2.size (fun i hi e => ?_))⟩, fun i hi hb => hd i (ho i hi (h.2.1 i hb).2) hb⟩
  · rcases e with e | e
    · exact hd i e hb
    · omega
  · rcases e with e | e
    · exact ha i e
    · exact Nat.le_trans h.2.2.size e
theorem sep_new {w1 : World} (h : AtO w0 w1 Oa s M R L) {s2 : Nat} {L2 : List Ent} (k : AtO w1 w Ob s2 M R L2) : Sep Oa Ob := fun i ha hb => by
  have h1 := (h.2.1 i ha).2
  have h2 := (k.2.1 i hb).1
  omega
theorem AtO.low (h : AtO w0 w O s M R L) : ∀ i, O i → w0.heap.size ≤ i := fun i hi => (h.2.1 i hi).1
theorem Dos.none (w : World) (B : Nat) : Dos w B none 0 [] := ⟨rfl, fun h => absurd h (by omega)⟩
end Go.Proofs.Ytnmifaohmafobaa.st
