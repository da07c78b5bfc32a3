/- A store: a call by value, as an argument. -/
import Derived.Test.YtnmifaohmafobaaStV
import Derived.ProofKit
import Derived.OpenShut
import Derived.ShutString
import Derived.ChangeOld
import Derived.Deep.Strs
namespace Go.Proofs.Ytnmifaohmafobaa.st
open Go.ChangeShapes Go.WideShapes Go.ChangeAt Go.RowKit Mem Go.Deep
set_option linter.unusedVariables false
/-- a call -/
structure DoV where
  op : Int
  id : Int
  n : Int
  data : List UInt8
def doV (k : DoV) (A : Option Addr) (n c : Nat) : Value := .agg #[.int .i64 k.op, .int .i64 k.id, .slice A n c, .int .i64 k.n]
theorem open_do {H : Type} {enc : TypeId × Value → H} {W : World} {r : Reach} {b0 : Nat} {v : Value} {d : DataW H} {ps : List MemPlace}
    (hval : Value.okWide Try.prog W r b0 34 v) (hd : DataW.Trod enc Try.prog W 0 (fun _ => true) true 34 v d ps) :
    ∃ (k : DoV) (A : Option Addr) (n c : Nat), v = doV k A n c ∧ Rd W W.heap.size A n (bv k.data) ∧ n ≤ c ∧ n ≤ 9223372036854775807 := by
  have hc : Try.prog.cellsOf 34 = 4 := by kernel_rfl
  have hi : Try.prog.cellsOf 3 = 1 := by kernel_rfl
  have hs : Try.prog.cellsOf 32 = 1 := by kernel_rfl
  obtain ⟨cs, rfl, hsz⟩ := okWide_struct Try.underlying34 hval
  rw [hc] at hsz
  obtain ⟨fuel, hf⟩ := hd
  obtain ⟨xs, m, _, hx, _, hlen, hg⟩ := DataW.trod_struct Try.underlying34 hf
  obtain ⟨l⟩ := cs
  match l, hsz with
  | [c0, c1, c2, c3], _ =>
    match xs, hlen with
    | [y0, y1, y2, y3], _ =>
      have u0 := hg 0 _ rfl
      have u1 := hg 1 _ rfl
      have u2 := hg 2 _ rfl
      have u3 := hg 3 _ rfl
      clear hg hx hf hval
      simp [Value.cells, hi, hs] at u0 u1 u2 u3
      obtain ⟨x0, e0, _, w0⟩ := DataW.trod_int Try.underlying3 u0
      obtain ⟨x1, e1, _, w1⟩ := DataW.trod_int Try.underlying3 u1
      obtain ⟨x3, e3, _, w3⟩ := DataW.trod_int Try.underlying3 u3
      simp at e0 e1 e3
      subst e0 e1 e3
      rcases open_ints Try.underlying32 Try.underlying5 (by kernel_rfl) u2 with ⟨hcs, _⟩ | ⟨x, l, c, zs, hcs, _, hl, hm, hz, _, hcell, hwz⟩
      · simp at hcs
        subst hcs
        exact ⟨⟨x0, x1, x3, []⟩, none, 0, 0, rfl, Rd.nil _ _ _, Nat.le_refl _, by omega⟩
      · simp at hcs
        subst hcs
        unfold maxLen at hm
        obtain ⟨l2, hl2⟩ := rd_bytes hl (by simpa using hz) hcell hwz
        exact ⟨⟨x0, x1, x3, l2⟩, _, _, _, rfl, hl2, hl, by omega⟩
end Go.Proofs.Ytnmifaohmafobaa.st
