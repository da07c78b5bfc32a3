/- A Span by value: what its reading gives, and its reading back. -/
import Derived.Test.YtbkhhcjpcobkkaaSeqC
import Derived.ProofKit
import Derived.OpenShut
import Derived.ChangeOld
import Derived.Deep.Strs
import Derived.Deep.RegionHeld3
namespace Go.Proofs.Ytbkhhcjpcobkkaa.sq
open Go.ChangeShapes Go.WideShapes Go.ChangeAt Go.RowKit Mem Go.Deep
theorem open_span {H : Type} {enc : TypeId × Value → H} {W : World} {base : Nat} {spare : Nat → Bool} {held : Bool} {r : Reach} {b0 : Nat} {v : Value} {d : DataW H} {ps : List MemPlace}
    (hval : Value.okWide Try.prog W r b0 29 v) (hd : DataW.Trod enc Try.prog W base spare held 29 v d ps) :
    ∃ x y : Int, v = .agg #[.int .u32 x, .int .i64 y] ∧ ps = [] ∧ (Lit.int .u32 x).wf = true ∧ (Lit.int .i64 y).wf = true ∧
      ∀ (W' : World) (base' : Nat) (spare' : Nat → Bool) (held' : Bool), DataW.Trod enc Try.prog W' base' spare' held' 29 v d [] := by
  have hc : Try.prog.cellsOf 29 = 2 := by kernel_rfl
  have hi : Try.prog.cellsOf 3 = 1 := by kernel_rfl
  have hu : Try.prog.cellsOf 22 = 1 := by kernel_rfl
  obtain ⟨cs, rfl, hsz⟩ := okWide_struct Try.underlying29 hval
  rw [hc] at hsz
  obtain ⟨fuel, hf⟩ := hd
  obtain ⟨y0, y1, k, hxy, _, u0, u1⟩ := trod_struct2 Try.underlying29 hf
  obtain ⟨c0, c1, rfl⟩ : ∃ c0 c1, cs = #[c0, c1] := by
    obtain ⟨l⟩ := cs
    match l, hsz with
    | [c0, c1], _ => exact ⟨c0, c1, rfl⟩
  simp [Value.cells, hi, hu] at u0 u1
  obtain ⟨x, e0, d0, wx⟩ := DataW.trod_int Try.underlying22 u0
  obtain ⟨y, e1, d1, wy⟩ := DataW.trod_int Try.underlying3 u1
  simp at e0 e1
  subst e0 e1 d0 d1
  simp at hxy
  obtain ⟨rfl, rfl⟩ := hxy
  refine ⟨x, y, rfl, rfl, wx, wy, fun W' base' spare' held' => ⟨2, ?_⟩⟩
  have := trod_struct2_mk (enc := enc) (w := W') (base := base') (spare := spare') (held := held') (n := 1) (cs := [Value.int .u32 x, Value.int .i64 y]) (y0 := (.lit (.int .u32 x), [])) (y1 := (.lit (.int .i64 y), [])) Try.underlying29 (by rw [hc]; rfl)
    (by simpa [hi, hu] using trod_int_mk (enc := enc) (w := W') (base := base') (spare := spare') (held := held') 0 Try.underlying22 wx)
    (by simpa [hi, hu] using trod_int_mk (enc := enc) (w := W') (base := base') (spare := spare') (held := held') 0 Try.underlying3 wy)
  simpa [Value.cells] using this
end Go.Proofs.Ytbkhhcjpcobkkaa.sq
