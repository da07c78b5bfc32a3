/- slices.Grow, slices.Concat. -/
import Derived.Test.YtagomegeeijfnaaDoorDgK
import Derived.Lib.AppendZeros
import Derived.Lib.MinMax
namespace Go.Proofs.YtagomegeeijfnaaDoor.dg
open Go.RowKit Mem DM
set_option linter.unusedVariables false
def Made (w : World) (l : List UInt8) (e : Ending) (w' : World) : Prop := ∃ A N c, e = .returned (.slice A N c) ∧ Ow w' w.heap.size 5 A N c (bv l) ∧ Below w.heap.size w w'
section
variable {P : Program} {w : World}
theorem grow_own {T E : TypeId} {z : Value} {bytes : Nat} (ty : Ty1 P T E z bytes) (n : Nat) (hn : n ≤ maxLen) :
    Ow (w.drew.alloc (.cells (Builtin.zeroCells z.cells n ++ Builtin.zeroCells z.cells (grownCap w n 0 E - n)) E)) w.heap.size E (some ⟨w.heap.size, 0, none⟩) 0 (grownCap w n 0 E) [] := by
  refine ⟨rfl, Or.inr ⟨w.heap.size, grownCap w n 0 E, Builtin.zeroCells z.cells n ++ Builtin.zeroCells z.cells (grownCap w n 0 E - n), rfl, Nat.le_refl _, ?_, Nat.zero_le _, grownCap_le_maxLen w n 0 E hn, ?_, by simp⟩⟩
  · show (w.drew.heap.push _)[w.heap.size]? = _
    rw [show w.drew.heap = w.heap from rfl]
    simp
  · have := grownCap_ge w n 0 E
    simp [Builtin.zeroCells, ty.hz]
    omega
/-- append of so many noughts to nothing, at the operation -/
theorem wp_zeros {ops : Array Oper} {rest : List Oper} {o : Oper} {a : Act} {Q : Exit → Act → World → Prop} {T tn E : TypeId} {z : Value} {bytes : Nat} (ty : Ty1 P T E z bytes) {kn : IntKind} (htn : P.underlying tn = some (.int kn)) (hgd : o.guard = none) (s x : Operand)
    (ho : o.op = .call { callee := .builtin .append, args := #[s, x], argTypes := #[T, tn] }) {k : IntKind} {n : Nat} (hs : a.eval s = .slice none 0 0) (hx : a.eval x = .int k n) (h0 : 0 < n) (hn : n ≤ 1099511627776) (hb : n * bytes ≤ 281474976710656)
    (h : ∀ c' w', Ow w' w.heap.size E (some ⟨w.heap.size, 0, none⟩) 0 c' [] → Below w.heap.size w w' → wpList P ops Q rest (a.put o.dst (.slice (some ⟨w.heap.size, 0, none⟩) n c')) w') :
    wpList P ops Q (o :: rest) a w := by
  refine wpList_plain hgd fun K hK => ?_
  obtain ⟨i, hi, hz, hsz, hby⟩ := ty.hi
  have hrun := Lib.run_append_nil_zeros (P := P) w T tn o.type E i z k kn ty.ht htn hi hz n h0 (by omega) (by omega) (by rw [hby]; exact hb)
  unfold Oper.wp execOp
  simp only [ho, resolve, invoke, builtin, Sem.run_bind, Sem.run_pure, Result.andThen_ok, List.map_toArray, List.map_cons, List.map_nil, hs, hx, hrun]
  exact hK _ _ (h _ _ (grow_own ty n (by unfold maxLen; omega)) ((Below.refl _ _).drew.alloc (Nat.le_refl _) _))
end

end Go.Proofs.YtagomegeeijfnaaDoor.dg
