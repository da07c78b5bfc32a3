/- A packet by value: what its reading gives. -/
import Derived.Test.YtjpdamighffgfaaPkN
import Derived.ProofKit
import Derived.OpenShut
import Derived.ShutString
import Derived.ChangeOld
import Derived.Deep.Strs
namespace Go.Proofs.Ytjpdamighffgfaa.pk
open Go.ChangeShapes Go.WideShapes Go.ChangeAt Go.RowKit Mem Go.Deep PM
theorem u32_wf {n : Int} (h : (Lit.int .u32 n).wf = true) : 0 ≤ n ∧ n < 4294967296 := by
  have : 0 ≤ n ∧ n ≤ 4294967295 := by simpa [Lit.wf, IntKind.min, IntKind.max, IntKind.signed, IntKind.bits] using h
  omega
theorem open_pk {H : Type} {enc : TypeId × Value → H} {W : World} {r : Reach} {b0 : Nat} {v : Value} {d : DataW H} {ps : List MemPlace}
    (hval : Value.okWide Try.prog W r b0 25 v) (hd : DataW.Trod enc Try.prog W 0 (fun _ => true) true 25 v d ps) :
    ∃ (p : Pk) (A : Option Addr) (n c : Nat), v = pkV p A n c ∧ Rd W W.heap.size A n (bv p.data) ∧ n ≤ c ∧ n ≤ 9223372036854775807 ∧ u32P p := by
  have hc : Try.prog.cellsOf 25 = 11 := by kernel_rfl
  have hi : Try.prog.cellsOf 3 = 1 := by kernel_rfl
  have hu : Try.prog.cellsOf 22 = 1 := by kernel_rfl
  have hs : Try.prog.cellsOf 23 = 1 := by kernel_rfl
  obtain ⟨cs, rfl, hsz⟩ := okWide_struct Try.underlying25 hval
  rw [hc] at hsz
  obtain ⟨fuel, hf⟩ := hd
  obtain ⟨xs, m, _, hx, _, hlen, hg⟩ := DataW.trod_struct Try.underlying25 hf
  obtain ⟨l⟩ := cs
  match l, hsz with
  | [c0, c1, c2, c3, c4, c5, c6, c7, c8, c9, c10], _ =>
    match xs, hlen with
    | [y0, y1, y2, y3, y4, y5, y6, y7, y8, y9, y10], _ =>
      have u0 := hg 0 _ rfl
      have u1 := hg 1 _ rfl
      have u2 := hg 2 _ rfl
      have u3 := hg 3 _ rfl
      have u4 := hg 4 _ rfl
      have u5 := hg 5 _ rfl
      have u6 := hg 6 _ rfl
      have u7 := hg 7 _ rfl
      have u8 := hg 8 _ rfl
      have u9 := hg 9 _ rfl
      have u10 := hg 10 _ rfl
      clear hg hx hf hval
      simp [Value.cells, hi, hu, hs] at u0 u1 u2 u3 u4 u5 u6 u7 u8 u9 u10
      obtain ⟨x0, e0, _, w0⟩ := DataW.trod_int Try.underlying3 u0
      obtain ⟨x1, e1, _, w1⟩ := DataW.trod_int Try.underlying3 u1
      obtain ⟨x2, e2, _, w2⟩ := DataW.trod_int Try.underlying3 u2
      obtain ⟨x3, e3, _, w3⟩ := DataW.trod_int Try.underlying3 u3
      obtain ⟨x4, e4, _, w4⟩ := DataW.trod_int Try.underlying22 u4
      obtain ⟨x5, e5, _, w5⟩ := DataW.trod_int Try.underlying22 u5
      obtain ⟨x6, e6, _, w6⟩ := DataW.trod_int Try.underlying3 u6
      obtain ⟨x7, e7, _, w7⟩ := DataW.trod_int Try.underlying3 u7
      obtain ⟨x8, e8, _, w8⟩ := DataW.trod_int Try.underlying3 u8
      obtain ⟨x9, e9, _, w9⟩ := DataW.trod_int Try.underlying3 u9
      simp at e0 e1 e2 e3 e4 e5 e6 e7 e8 e9
      subst e0 e1 e2 e3 e4 e5 e6 e7 e8 e9
      have h4 := u32_wf w4
      have h5 := u32_wf w5
      rcases open_ints Try.underlying23 Try.underlying5 (by kernel_rfl) u10 with ⟨hcs, _⟩ | ⟨x, l, c, zs, hcs, _, hl, hm, hz, _, hcell, hwz⟩
      · simp at hcs
        subst hcs
        exact ⟨⟨x0, x1, x2, x3, x4, x5, x6, x7, x8, x9, []⟩, none, 0, 0, rfl, Rd.nil _ _ _, Nat.le_refl _, by omega, h4, h5⟩
      · simp at hcs
        subst hcs
        unfold maxLen at hm
        obtain ⟨l2, hl2⟩ := rd_bytes hl (by simpa using hz) hcell hwz
        exact ⟨⟨x0, x1, x2, x3, x4, x5, x6, x7, x8, x9, l2⟩, _, _, _, rfl, hl2, hl, by omega, h4, h5⟩
end Go.Proofs.Ytjpdamighffgfaa.pk
