/- The tables out of the row's list; a world for the witness. -/
import Derived.Test.YtmdaglcpnakjhaaDoorRcN
import Derived.Test.YtmdaglcpnakjhaaDoorCards
import Derived.Test.YtmdaglcpnakjhaaDoorTie
import Derived.ProofKit
import Derived.OpenShut
import Derived.Deep.DeepHandedRow
import Derived.Deep.Matrix
import Derived.Lib.LaidTab
namespace Go.Proofs.YtmdaglcpnakjhaaDoor.dg
open Go.RowKit Mem DM
set_option linter.unusedVariables false
theorem own : ownKnob Tryd.prog.godebug = none := by kernel_rfl
theorem laidOut : laidOutB Tryd.prog = true := by kernel_rfl
theorem gRoots : Tryd.prog.globalNamed "flume/digest.roots" = some 0 := by kernel_rfl
theorem gRootsType : (Tryd.prog.globals[0]?).map (·.type) = some 107 := by kernel_rfl
theorem gCubes : Tryd.prog.globalNamed "flume/digest.cubes" = some 1 := by kernel_rfl
theorem gCubesType : (Tryd.prog.globals[1]?).map (·.type) = some 114 := by kernel_rfl
theorem cells8 : Tryd.prog.cellsOf 107 = 8 := by kernel_rfl
theorem cells64 : Tryd.prog.cellsOf 114 = 64 := by kernel_rfl
theorem cellsElem : Tryd.prog.cellsOf 96 = 1 := by kernel_rfl
def intsOf (l : List UInt32) : List Int := l.map fun x => (x.toNat : Int)
theorem range_tab {W : World} {name : String} {g : Nat} (l : List UInt32) (h : Lib.TabIs Tryd.prog W name .u32 (intsOf l)) (hg : Tryd.prog.globalNamed name = some g) : W.rangeAt g 0 (wvs l) := fun j v hj => by
  have hjl : j < l.length := by
    have := (List.getElem?_eq_some_iff.1 hj).1
    rw [wvs_len] at this
    exact this
  have := h.cell hg j (by simpa [intsOf] using hjl)
  rw [Nat.zero_add, this]
  rw [wvs_at l j hjl] at hj
  injection hj with hj
  rw [← hj]
  unfold wv intsOf
  simp [hjl]
theorem table {W : World} {laid : List (String × DataW Unit)} (hl : laid = [("flume/digest.roots", Rows.laid_flume_digest_roots), ("flume/digest.cubes", Rows.laid_flume_digest_cubes)]) (h : laidMetH Tryd.prog laid W) : Tab W := by
  subst hl
  have h' : laidMet Tryd.prog (("flume/digest.roots", Lib.tabData .u32 (intsOf roots)) :: [("flume/digest.cubes", Lib.tabData .u32 (intsOf cubes))]) W := h
  have t1 : Lib.TabIs Tryd.prog W "flume/digest.roots" .u32 (intsOf roots) := Lib.tabIs_of_head gRoots gRootsType Tryd.underlying107 Tryd.underlying96 cellsElem cells8 h'
  have t2 : Lib.TabIs Tryd.prog W "flume/digest.cubes" .u32 (intsOf cubes) := by
    obtain ⟨ps, ⟨g', t', cs, fuel, p, q, hg', ht', hvar, hd, hrest, _⟩, _⟩ := h'
    obtain ⟨g2, t2, cs2, fuel2, p2, q2, hg2, ht2, hvar2, hd2, _, _⟩ := hrest
    obtain rfl := Option.some.inj (gCubes.symm.trans hg2)
    obtain rfl := Option.some.inj (gCubesType.symm.trans ht2)
    unfold Lib.TabIs
    rw [hvar2, ← Lib.cells_of_tab Tryd.underlying114 Tryd.underlying96 cellsElem cells64 hd2]
  exact ⟨range_tab roots t1 gRoots, range_tab cubes t2 gCubes⟩
def laid1 : Obj → Obj
  | .cells _ t frozen => .cells #[.int .u32 1779033703, .int .u32 3144134277, .int .u32 1013904242, .int .u32 2773480762, .int .u32 1359893119, .int .u32 2600822924, .int .u32 528734635, .int .u32 1541459225] t frozen
  | o => o
def laid2 : Obj → Obj
  | .cells _ t frozen => .cells (List.toArray ([.int .u32 1116352408, .int .u32 1899447441, .int .u32 3049323471, .int .u32 3921009573, .int .u32 961987163, .int .u32 1508970993, .int .u32 2453635748, .int .u32 2870763221, .int .u32 3624381080, .int .u32 310598401, .int .u32 607225278, .int .u32 1426881987, .int .u32 1925078388, .int .u32 2162078206, .int .u32 2614888103, .int .u32 3248222580, .int .u32 3835390401, .int .u32 4022224774, .int .u32 264347078, .int .u32 604807628, .int .u32 770255983, .int .u32 1249150122, .int .u32 1555081692, .int .u32 1996064986, .int .u32 2554220882, .int .u32 2821834349, .int .u32 2952996808, .int .u32 3210313671, .int .u32 3336571891, .int .u32 3584528711, .int .u32 113926993, .int .u32 338241895] ++ [.int .u32 666307205, .int .u32 773529912, .int .u32 1294757372, .int .u32 1396182291, .int .u32 1695183700, .int .u32 1986661051, .int .u32 2177026350, .int .u32 2456956037, .int .u32 2730485921, .int .u32 2820302411, .int .u32 3259730800, .int .u32 3345764771, .int .u32 3516065817, .int .u32 3600352804, .int .u32 4094571909, .int .u32 275423344, .int .u32 430227734, .int .u32 506948616, .int .u32 659060556, .int .u32 883997877, .int .u32 958139571, .int .u32 1322822218, .int .u32 1537002063, .int .u32 1747873779, .int .u32 1955562222, .int .u32 2024104815, .int .u32 2227730452, .int .u32 2361852424, .int .u32 2428436474, .int .u32 2756734187, .int .u32 3204031479, .int .u32 3329325298])) t frozen
  | o => o
noncomputable def laidWorld (os : Os) : World :=
  { World.holding Tryd.prog os ⟨#[], #[], []⟩ with heap := ((World.holding Tryd.prog os ⟨#[], #[], []⟩).heap.modify 0 laid1).modify 1 laid2 }
end Go.Proofs.YtmdaglcpnakjhaaDoor.dg
