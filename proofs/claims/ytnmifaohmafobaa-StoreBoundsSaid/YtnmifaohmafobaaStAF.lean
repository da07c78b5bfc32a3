/- A store whose chunks are all used, the first first: the list stands as it stood. -/
import Derived.Test.YtnmifaohmafobaaStAE
namespace Go.Proofs.Ytnmifaohmafobaa.st
open Go.RowKit Go.Shelf Mem SM
set_option linter.unusedVariables false
variable {w0 w w' y z : World} {O : Nat → Prop} {s M R : Nat} {L : List Ent}
theorem AtO.nodup (h : AtO w0 w O s M R L) : (sums L).Nodup := by
  obtain ⟨r, g, mb, FA, fc, E, D, ns, fs, hB, rfl, h0⟩ := h.1.row
  exact hB.dj
/-- behind the first j -/
def turned (L : List Ent) (j : Nat) : List Ent := L.drop j ++ L.take j
theorem turned_zero (L : List Ent) : turned L 0 = L := by simp [turned]
theorem turned_all (L : List Ent) : turned L L.length = L := by simp [turned]
theorem turned_next (hd : (sums L).Nodup) (j : Nat) (hj : j < L.length) : SM.use L[j].sum (turned L j) = turned L (j + 1) ∧ L[j].sum ∈ sums (turned L j) ∧ dataOf L[j].sum (turned L j) = L[j].data := by
  have e1 : turned L j = [] ++ L[j] :: (L.drop (j + 1) ++ L.take j) := by
    unfold turned
    rw [List.drop_eq_getElem_cons hj]
    rfl
  have hp : (turned L j).Perm L := by
    unfold turned
    exact List.perm_append_comm.trans (by rw [List.take_append_drop])
  have hd2 : (sums (turned L j)).Nodup := ((hp.map _).nodup_iff).2 hd
  rw [e1] at hd2 ⊢
  refine ⟨?_, ?_, dataOf_split hd2⟩
  · rw [use_split hd2]
    unfold turned
    rw [List.nil_append, List.append_assoc, List.take_succ_eq_append_getElem hj]
  · simp [sums]
theorem total_take_le (L : List Ent) (j : Nat) : total (L.take j) ≤ total L := by
  have h : L.take j ++ L.drop j = L := List.take_append_drop j L
  have := total_append (L.take j) (L.drop j)
  rw [h] at this
  omega
theorem total_take_succ (L : List Ent) (j : Nat) (hj : j < L.length) : total (L.take (j + 1)) = total (L.take j) + L[j].data.length := by
  rw [List.take_succ_eq_append_getElem hj, total_append]
  simp [total]
theorem wpList_store_new {P : Program} {ops : Array Oper} {rest : List Oper} {op : Oper} {a : Act} {W : World} {Z : Array Value} {t : TypeId} {Q : Exit → Act → World → Prop} (hgd : op.guard = none) (ty : TypeId) (x y : Operand) (ho : op.op = .store ty x y)
    (CK : List Value) (hx : a.eval x = .pointer (some ⟨W.heap.size, 0, none⟩)) (hy : a.eval y = .agg CK.toArray) (hz : CK.length ≤ Z.size) (hi : (P.info? ty).map (·.size) = some CK.length) (h1 : ∀ v ∈ CK, v.oneCell' = true)
    (h : ∀ W2, W2.rangeAt W.heap.size 0 CK → Below W.heap.size W W2 → wpList P ops Q rest (a.put op.dst undef) W2) : wpList P ops Q (op :: rest) a (W.alloc (.cells Z t)) := by
  refine wpList_store_mid hgd ty x y ho W.heap.size 0 CK.toArray hx hy (there_fresh W Z t _ (by simpa using hz)) (by simpa using hi) (all_oneCell_toArray h1) (h _ ?_ ?_)
  · exact World.rangeAt_setCells_same (W.alloc (.cells Z t)) W.heap.size 0 CK (there_fresh W Z t _ hz)
  · exact ((Below.refl _ W).alloc (Nat.le_refl _) _).trans (below_setCells (Nat.le_refl _) _ _ _)
end Go.Proofs.Ytnmifaohmafobaa.st
