/- An Ask by value: what its reading gives, and its reading back. -/
import Derived.Test.YtinjkhblpdphoaaOctE
import Derived.ProofKit
import Derived.OpenShut
import Derived.ChangeOld
import Derived.Deep.Strs
namespace Go.Proofs.Ytinjkhblpdphoaa.oct
open Go.ChangeShapes Go.WideShapes Go.ChangeAt Go.RowKit Mem Go.Deep
theorem open_ask {H : Type} {enc : TypeId × Value → H} {W : World} {base : Nat} {spare : Nat → Bool} {held : Bool} {r : Reach} {b0 : Nat} {v : Value} {d : DataW H} {ps : List MemPlace}
    (hval : Value.okWide Try.prog W r b0 43 v) (hd : DataW.Trod enc Try.prog W base spare held 43 v d ps) :
    ∃ x y z : Int, v = .agg #[.int .i64 x, .int .i64 y, .int .i64 z] ∧ ps = [] ∧ (Lit.int .i64 x).wf = true ∧ (Lit.int .i64 y).wf = true ∧ (Lit.int .i64 z).wf = true ∧
      ∀ (W' : World) (base' : Nat) (spare' : Nat → Bool) (held' : Bool), DataW.Trod enc Try.prog W' base' spare' held' 43 v d [] := by
  have hc : Try.prog.cellsOf 43 = 3 := by kernel_rfl
  have hi : Try.prog.cellsOf 3 = 1 := by kernel_rfl
  obtain ⟨cs, rfl, hsz⟩ := okWide_struct Try.underlying43 hval
  rw [hc] at hsz
  obtain ⟨fuel, hf⟩ := hd
  obtain ⟨y0, y1, y2, k, hxy, _, u0, u1, u2⟩ := trod_struct3 Try.underlying43 hf
  obtain ⟨c0, c1, c2, rfl⟩ : ∃ c0 c1 c2, cs = #[c0, c1, c2] := by
    obtain ⟨l⟩ := cs
    match l, hsz with
    | [c0, c1, c2], _ => exact ⟨c0, c1, c2, rfl⟩
  simp [Value.cells, hi] at u0 u1 u2
  obtain ⟨x, e0, d0, wx⟩ := DataW.trod_int Try.underlying3 u0
  obtain ⟨y, e1, d1, wy⟩ := DataW.trod_int Try.underlying3 u1
  obtain ⟨z, e2, d2, wz⟩ := DataW.trod_int Try.underlying3 u2
  simp at e0 e1 e2
  subst e0 e1 e2 d0 d1 d2
  simp at hxy
  obtain ⟨rfl, rfl⟩ := hxy
  refine ⟨x, y, z, rfl, rfl, wx, wy, wz, fun W' base' spare' held' => ⟨2, ?_⟩⟩
  have := trod_struct3_mk (enc := enc) (w := W') (base := base') (spare := spare') (held := held') (n := 1) (cs := [Value.int .i64 x, .int .i64 y, .int .i64 z]) (y0 := (.lit (.int .i64 x), [])) (y1 := (.lit (.int .i64 y), [])) (y2 := (.lit (.int .i64 z), [])) Try.underlying43 (by rw [hc]; rfl)
    (by simpa [hi] using trod_int_mk (enc := enc) (w := W') (base := base') (spare := spare') (held := held') 0 Try.underlying3 wx)
    (by simpa [hi] using trod_int_mk (enc := enc) (w := W') (base := base') (spare := spare') (held := held') 0 Try.underlying3 wy)
    (by simpa [hi] using trod_int_mk (enc := enc) (w := W') (base := base') (spare := spare') (held := held') 0 Try.underlying3 wz)
  simpa [Value.cells] using this
end Go.Proofs.Ytinjkhblpdphoaa.oct
