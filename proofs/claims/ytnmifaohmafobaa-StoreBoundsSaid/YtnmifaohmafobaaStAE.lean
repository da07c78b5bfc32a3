/- A store with room: what is put stands last. -/
import Derived.Test.YtnmifaohmafobaaStAD
namespace Go.Proofs.Ytnmifaohmafobaa.st
open Go.RowKit Go.Shelf Mem SM
set_option linter.unusedVariables false
variable {w0 w w' y z : World} {O : Nat → Prop} {s M R : Nat} {L : List Ent}
theorem total_filter (p : Ent → Bool) (L : List Ent) : total (L.filter p) ≤ total L := by
  induction L with
  | nil => simp [total]
  | cons e L ih =>
    unfold total at ih ⊢
    by_cases h : p e = true
    · rw [List.filter_cons_of_pos h]; simp only [List.map_cons, List.sum_cons]; omega
    · rw [List.filter_cons_of_neg h]; simp only [List.map_cons, List.sum_cons]; omega
theorem put_room (t d : List UInt8) (hin : t ∉ sums L) (h1 : L.length < M) (h2 : total L + d.length ≤ R) : putE t d M R L = 0 ∧ putL t d M R L = L ++ [⟨t, d, 0⟩] := by
  have hn : ¬ narrow M R d.length L := fun h => by
    rcases h with h | h <;> omega
  have hf : ¬ full M R d.length L := fun h => by
    rcases h with h | h
    · have : fixedN L ≤ L.length := List.length_filter_le _ _
      omega
    · have : fixedS L ≤ total L := total_filter _ _
      omega
  unfold putE putL
  rw [if_neg hin, if_neg hin, if_neg hf, if_neg hf, shrink_end hn]
  exact ⟨rfl, rfl⟩
theorem sums_last (L : List Ent) (t d : List UInt8) : sums (L ++ [⟨t, d, 0⟩]) = sums L ++ [t] := by simp [sums]
theorem total_last (L : List Ent) (t d : List UInt8) : total (L ++ [⟨t, d, 0⟩]) = total L + d.length := by simp [total]
theorem OwS.kept {B : Nat} {v : Value} {l : List (List UInt8)} {bad : Nat → Prop} (h : OwS w B v l) (k : Kept w w' bad) (hb : ∀ i, B ≤ i → i < w.heap.size → ¬ bad i) : OwS w' B v l := by
  unfold OwS at *
  refine ⟨h.1, ?_⟩
  rcases h.2 with e | ⟨g, cap, cur, e, hg, hbk, r⟩
  · exact Or.inl e
  · have hl := (Array.getElem?_eq_some_iff.1 hbk).1
    exact Or.inr ⟨g, cap, cur, e, hg, (k.block g hl (hb g hg hl)).trans hbk, r⟩
theorem info_sum4 : ∃ i z, Try.prog.info? 40 = some i ∧ i.zero = some z ∧ i.size = 32 ∧ i.bytes = 32 ∧ z.cells.size = 32 := info_sum3
theorem AtO.off {bad : Nat → Prop} (h : AtO w0 w O s M R L) (k : Kept w w' bad) (hO : ∀ i, i < w.heap.size → O i → ¬ bad i) (hg : ∀ i, i < w.heap.size → bad i → w0.heap.size ≤ i) : AtO w0 w' O s M R L :=
  ⟨h.1.kept k hO, fun i hi => ⟨(h.2.1 i hi).1, Nat.lt_of_lt_of_le (h.2.1 i hi).2 k.size⟩, h.2.2.trans (below_of_kept k h.2.2.size hg)⟩
theorem OwS.block {B : Nat} {v : Value} {l : List (List UInt8)} (h : OwS w B v l) : ∀ g, v.ownBlock = some g → B ≤ g ∧ g < w.heap.size := fun g e => by
  rcases h.2 with ⟨e2, _⟩ | ⟨g2, cap, cur, e2, hg, hbk, r⟩
  · rw [e2] at e; cases e
  · rw [e2] at e
    injection e with e
    subst e
    exact ⟨hg, (Array.getElem?_eq_some_iff.1 hbk).1⟩
theorem OwS.more {B : Nat} {v : Value} {l : List (List UInt8)} {t : List UInt8} (h : w.ownsRow B 40 32 v (l.length + 1) (svs l ++ bv t)) : OwS w B v (l ++ [t]) := by
  unfold OwS
  rw [List.length_append, svs_app, svs_one]
  exact h
end Go.Proofs.Ytnmifaohmafobaa.st
