/- RcO, RcP in one. -/
import Derived.Test.YtmdaglcpnakjhaaDoorRcN
import Derived.Test.YtmdaglcpnakjhaaDoorCards
import Derived.Test.YtmdaglcpnakjhaaDoorTie
import Derived.ProofKit
import Derived.OpenShut
import Derived.Deep.DeepHandedRow
import Derived.Deep.Matrix
import Derived.Lib.LaidTab
import Derived.ChangeOld
import Derived.Deep.Strs
namespace Go.Proofs.YtmdaglcpnakjhaaDoor.dg
open Go.RowKit Mem DM
set_option linter.unusedVariables false
theorem own : ownKnob Tryd.prog.godebug = none := by kernel_rfl
theorem laidOut : laidOutB Tryd.prog = true := by kernel_rfl
theorem gRoots : Tryd.prog.globalNamed "flume/digest.roots" = some 0 := by kernel_rfl
theorem gRootsType : (Tryd.prog.globals[0]?).map (·.type) = some 107 := by kernel_rfl
theorem gCubes : Tryd.prog.globalNamed "flume/digest.cubes" = some 1 := by kernel_rfl
theorem gCubesType : (Tryd.prog.globals[1]?).map (·.type) = some 114 := by kernel_rfl
theorem cells8 : Tryd.prog.cellsOf 107 = 8 := by kernel_rfl
theorem cells64 : Tryd.prog.cellsOf 114 = 64 := by kernel_rfl
theorem cellsElem : Tryd.prog.cellsOf 96 = 1 := by kernel_rfl
def intsOf (l : List UInt32) : List Int := l.map fun x => (x.toNat : Int)
theorem range_tab {W : World} {name : String} {g : Nat} (l : List UInt32) (h : Lib.TabIs Tryd.prog W name .u32 (intsOf l)) (hg : Tryd.prog.globalNamed name = some g) : W.rangeAt g 0 (wvs l) := fun j v hj => by
  have hjl : j < l.length := by
    have := (List.getElem?_eq_some_iff.1 hj).1
    rw [wvs_len] at this
    exact this
  have := h.cell hg j (by simpa [intsOf] using hjl)
  rw [Nat.zero_add, this]
  rw [wvs_at l j hjl] at hj
  injection hj with hj
  rw [← hj]
  unfold wv intsOf
  simp [hjl]
theorem table {W : World} {laid : List (String × DataW Unit)} (hl : laid = [("flume/digest.roots", Rows.laid_flume_digest_roots), ("flume/digest.cubes", Rows.laid_flume_digest_cubes)]) (h : laidMetH Tryd.prog laid W) : Tab W := by
  subst hl
  have h' : laidMet Tryd.prog (("flume/digest.roots", Lib.tabData .u32 (intsOf roots)) :: [("flume/digest.cubes", Lib.tabData .u32 (intsOf cubes))]) W := h
  have t1 : Lib.TabIs Tryd.prog W "flume/digest.roots" .u32 (intsOf roots) := Lib.tabIs_of_head gRoots gRootsType Tryd.underlying107 Tryd.underlying96 cellsElem cells8 h'
  have t2 : Lib.TabIs Tryd.prog W "flume/digest.cubes" .u32 (intsOf cubes) := by
    obtain ⟨ps, ⟨g', t', cs, fuel, p, q, hg', ht', hvar, hd, hrest, _⟩, _⟩ := h'
    obtain ⟨g2, t2, cs2, fuel2, p2, q2, hg2, ht2, hvar2, hd2, _, _⟩ := hrest
    obtain rfl := Option.some.inj (gCubes.symm.trans hg2)
    obtain rfl := Option.some.inj (gCubesType.symm.trans ht2)
    unfold Lib.TabIs
    rw [hvar2, ← Lib.cells_of_tab Tryd.underlying114 Tryd.underlying96 cellsElem cells64 hd2]
  exact ⟨range_tab roots t1 gRoots, range_tab cubes t2 gCubes⟩
def laid1 : Obj → Obj
  | .cells _ t frozen => .cells #[.int .u32 1779033703, .int .u32 3144134277, .int .u32 1013904242, .int .u32 2773480762, .int .u32 1359893119, .int .u32 2600822924, .int .u32 528734635, .int .u32 1541459225] t frozen
  | o => o
def laid2 : Obj → Obj
  | .cells _ t frozen => .cells (List.toArray ([.int .u32 1116352408, .int .u32 1899447441, .int .u32 3049323471, .int .u32 3921009573, .int .u32 961987163, .int .u32 1508970993, .int .u32 2453635748, .int .u32 2870763221, .int .u32 3624381080, .int .u32 310598401, .int .u32 607225278, .int .u32 1426881987, .int .u32 1925078388, .int .u32 2162078206, .int .u32 2614888103, .int .u32 3248222580, .int .u32 3835390401, .int .u32 4022224774, .int .u32 264347078, .int .u32 604807628, .int .u32 770255983, .int .u32 1249150122, .int .u32 1555081692, .int .u32 1996064986, .int .u32 2554220882, .int .u32 2821834349, .int .u32 2952996808, .int .u32 3210313671, .int .u32 3336571891, .int .u32 3584528711, .int .u32 113926993, .int .u32 338241895] ++ [.int .u32 666307205, .int .u32 773529912, .int .u32 1294757372, .int .u32 1396182291, .int .u32 1695183700, .int .u32 1986661051, .int .u32 2177026350, .int .u32 2456956037, .int .u32 2730485921, .int .u32 2820302411, .int .u32 3259730800, .int .u32 3345764771, .int .u32 3516065817, .int .u32 3600352804, .int .u32 4094571909, .int .u32 275423344, .int .u32 430227734, .int .u32 506948616, .int .u32 659060556, .int .u32 883997877, .int .u32 958139571, .int .u32 1322822218, .int .u32 1537002063, .int .u32 1747873779, .int .u32 1955562222, .int .u32 2024104815, .int .u32 2227730452, .int .u32 2361852424, .int .u32 2428436474, .int .u32 2756734187, .int .u32 3204031479, .int .u32 3329325298])) t frozen
  | o => o
noncomputable def laidWorld (os : Os) : World :=
  { World.holding Tryd.prog os ⟨#[], #[], []⟩ with heap := ((World.holding Tryd.prog os ⟨#[], #[], []⟩).heap.modify 0 laid1).modify 1 laid2 }
end Go.Proofs.YtmdaglcpnakjhaaDoor.dg
namespace Go.Proofs.YtmdaglcpnakjhaaDoor.rc
set_option maxRecDepth 20000
open Go.ChangeShapes Go.WideShapes Go.ChangeAt Go.RowKit Mem Go.Deep OM
set_option linter.unusedVariables false
theorem rd_bytes1 {z : Int} (h : (Lit.int .u8 z).wf = true) : ∃ b : UInt8, z = (b.toNat : Int) := by
  have : 0 ≤ z ∧ z ≤ 255 := by simpa [Lit.wf, IntKind.min, IntKind.max, IntKind.signed, IntKind.bits] using h
  refine ⟨UInt8.ofNat z.toNat, ?_⟩
  rw [UInt8.toNat_ofNat']
  omega
theorem trod_sum {H : Type} {enc : TypeId × Value → H} {W : World} {m : Nat} {cs : List Value} {x : DataW H × List MemPlace}
    (h : DataW.trod enc Tryd.prog W 0 (fun _ => true) true m 23 cs = some x) : ∃ d : List UInt8, d.length = 32 ∧ cs = bv d := by
  have hc : Tryd.prog.cellsOf 23 = 32 := by kernel_rfl
  have h1 : Tryd.prog.cellsOf 5 = 1 := by kernel_rfl
  obtain ⟨xs, k, _, _, hl, hx, hg⟩ := DataW.trod_array Tryd.underlying23 h
  rw [hc] at hl
  rw [h1] at hg
  have each : ∀ i : Nat, ∃ b : UInt8, i < 32 → cs[i]? = some (.int .u8 (b.toNat : Int)) := fun i => by
    by_cases hi : i < 32
    · have hgi := hg i hi
      rw [List.getElem?_eq_getElem (by omega)] at hgi
      obtain ⟨z, e, _, wf⟩ := DataW.trod_int Tryd.underlying5 hgi
      obtain ⟨b, rfl⟩ := rd_bytes1 wf
      refine ⟨b, fun _ => ?_⟩
      have := congrArg (fun l : List Value => l[0]?) e
      simpa [List.getElem?_take, List.getElem?_drop] using this
    · exact ⟨0, fun h => absurd h hi⟩
  refine ⟨(List.range 32).map fun i => (each i).choose, by simp, ?_⟩
  refine List.ext_getElem? fun i => ?_
  by_cases hi : i < 32
  · rw [(each i).choose_spec hi]
    simp [bv, hi]
  · rw [List.getElem?_eq_none (by omega), List.getElem?_eq_none (by simp [bv]; omega)]
theorem split4 {cs : List Value} (h : cs.length = 35) : cs = (cs.drop 0).take 1 ++ ((cs.drop 1).take 1 ++ ((cs.drop 2).take 32 ++ (cs.drop 34).take 1)) := by
  match cs, h with
  | a :: b :: r, h =>
    have hr : r.length = 33 := by simpa using h
    simp only [List.drop_zero, List.take_succ_cons, List.take_zero, List.drop_succ_cons, List.cons_append, List.nil_append]
    rw [show (r.drop 32).take 1 = r.drop 32 from List.take_of_length_le (by simp; omega), List.take_append_drop]
theorem trod_rec {H : Type} {enc : TypeId × Value → H} {W : World} {fuel : Nat} {cs : List Value} {x : DataW H × List MemPlace}
    (h : DataW.trod enc Tryd.prog W 0 (fun _ => true) true fuel 26 cs = some x) :
    ∃ (K S : Int) (d l : List UInt8) (A : Option Addr) (n c : Nat), cs = recL K S d A n c ∧ d.length = 32 ∧ Rd W W.heap.size A n (bv l) ∧ n ≤ c ∧ n ≤ 9223372036854775807 ∧ (-9223372036854775808 ≤ K ∧ K ≤ 9223372036854775807) ∧ (-9223372036854775808 ≤ S ∧ S ≤ 9223372036854775807) := by
  have hc : Tryd.prog.cellsOf 26 = 35 := by kernel_rfl
  have hi : Tryd.prog.cellsOf 3 = 1 := by kernel_rfl
  have hu : Tryd.prog.cellsOf 23 = 32 := by kernel_rfl
  have hs : Tryd.prog.cellsOf 24 = 1 := by kernel_rfl
  obtain ⟨xs, m, _, hx, hl, hlen, hg⟩ := DataW.trod_struct Tryd.underlying26 h
  rw [hc] at hl
  have h35 := split4 hl
  match xs, hlen with
  | [y0, y1, y2, y3], _ =>
    have u0 : DataW.trod enc Tryd.prog W 0 (fun _ => true) true m 3 ((cs.drop 0).take (Tryd.prog.cellsOf 3)) = some y0 := hg 0 _ rfl
    have u1 : DataW.trod enc Tryd.prog W 0 (fun _ => true) true m 3 ((cs.drop 1).take (Tryd.prog.cellsOf 3)) = some y1 := hg 1 _ rfl
    have u2 : DataW.trod enc Tryd.prog W 0 (fun _ => true) true m 23 ((cs.drop 2).take (Tryd.prog.cellsOf 23)) = some y2 := hg 2 _ rfl
    have u3 : DataW.trod enc Tryd.prog W 0 (fun _ => true) true m 24 ((cs.drop 34).take (Tryd.prog.cellsOf 24)) = some y3 := hg 3 _ rfl
    clear hg hx h
    rw [hi] at u0 u1
    rw [hu] at u2
    rw [hs] at u3
    obtain ⟨K, e0, _, w0⟩ := DataW.trod_int Tryd.underlying3 u0
    obtain ⟨S, e1, _, w1⟩ := DataW.trod_int Tryd.underlying3 u1
    obtain ⟨d, hd, e2⟩ := trod_sum u2
    rw [e0, e1, e2] at h35
    have g0 := int_wf w0
    have g1 := int_wf w1
    rcases open_ints Tryd.underlying24 Tryd.underlying5 (by kernel_rfl) u3 with ⟨hcs, _⟩ | ⟨x, l, c, zs, hcs, _, hl2, hm, hz, _, hcell, hwz⟩
    · rw [hcs] at h35
      exact ⟨K, S, d, [], none, 0, 0, h35, hd, Rd.nil _ _ _, Nat.le_refl _, by omega, g0, g1⟩
    · rw [hcs] at h35
      unfold maxLen at hm
      obtain ⟨l2, hl3⟩ := rd_bytes hl2 (by simpa using hz) hcell hwz
      exact ⟨K, S, d, l2, _, _, _, h35, hd, hl3, hl2, by omega, g0, g1⟩
theorem open_rec {H : Type} {enc : TypeId × Value → H} {W : World} {r : Reach} {b0 : Nat} {v : Value} {d : DataW H} {ps : List MemPlace}
    (hval : Value.okWide Tryd.prog W r b0 26 v) (hd : DataW.Trod enc Tryd.prog W 0 (fun _ => true) true 26 v d ps) :
    ∃ (K S : Int) (d l : List UInt8) (A : Option Addr) (n c : Nat), v = .agg (recL K S d A n c).toArray ∧ d.length = 32 ∧ Rd W W.heap.size A n (bv l) ∧ n ≤ c ∧ n ≤ 9223372036854775807 ∧ (-9223372036854775808 ≤ K ∧ K ≤ 9223372036854775807) ∧ (-9223372036854775808 ≤ S ∧ S ≤ 9223372036854775807) := by
  obtain ⟨cs, rfl, hsz⟩ := okWide_struct Tryd.underlying26 hval
  obtain ⟨fuel, hf⟩ := hd
  obtain ⟨K, S, d, l, A, n, c, e, r⟩ := trod_rec hf
  refine ⟨K, S, d, l, A, n, c, ?_, r⟩
  rw [← e]
  simp [Value.cells]
theorem open_note {H : Type} {enc : TypeId × Value → H} {W : World} {r : Reach} {b0 : Nat} {v : Value} {d : DataW H} {ps : List MemPlace}
    (hval : Value.okWide Tryd.prog W r b0 28 v) (hd : DataW.Trod enc Tryd.prog W 0 (fun _ => true) true 28 v d ps) :
    ∃ (N F P D I K S : Int) (d l : List UInt8) (A : Option Addr) (n c : Nat), v = .agg (noteL N F P D I K S d A n c).toArray ∧ d.length = 32 ∧ Rd W W.heap.size A n (bv l) ∧ n ≤ c ∧ n ≤ 9223372036854775807 ∧ (-9223372036854775808 ≤ K ∧ K ≤ 9223372036854775807) ∧ (-9223372036854775808 ≤ S ∧ S ≤ 9223372036854775807) ∧ (-9223372036854775808 ≤ N ∧ N ≤ 9223372036854775807) ∧
      (-9223372036854775808 ≤ F ∧ F ≤ 9223372036854775807) ∧ (-9223372036854775808 ≤ P ∧ P ≤ 9223372036854775807) ∧ (-9223372036854775808 ≤ D ∧ D ≤ 9223372036854775807) ∧ (-9223372036854775808 ≤ I ∧ I ≤ 9223372036854775807) := by
  have hc : Tryd.prog.cellsOf 28 = 40 := by kernel_rfl
  have hi : Tryd.prog.cellsOf 3 = 1 := by kernel_rfl
  have hu : Tryd.prog.cellsOf 26 = 35 := by kernel_rfl
  obtain ⟨cs, rfl, hsz⟩ := okWide_struct Tryd.underlying28 hval
  obtain ⟨fuel, hf⟩ := hd
  obtain ⟨xs, m, _, hx, hl, hlen, hg⟩ := DataW.trod_struct Tryd.underlying28 hf
  rw [hc] at hl
  obtain ⟨cs⟩ := cs
  simp only [Value.cells] at hl hg
  match xs, hlen with
  | [y0, y1, y2, y3, y4, y5], _ =>
    have u0 : DataW.trod enc Tryd.prog W 0 (fun _ => true) true m 3 ((cs.drop 0).take (Tryd.prog.cellsOf 3)) = some y0 := hg 0 _ rfl
    have u1 : DataW.trod enc Tryd.prog W 0 (fun _ => true) true m 3 ((cs.drop 1).take (Tryd.prog.cellsOf 3)) = some y1 := hg 1 _ rfl
    have u2 : DataW.trod enc Tryd.prog W 0 (fun _ => true) true m 3 ((cs.drop 2).take (Tryd.prog.cellsOf 3)) = some y2 := hg 2 _ rfl
    have u3 : DataW.trod enc Tryd.prog W 0 (fun _ => true) true m 3 ((cs.drop 3).take (Tryd.prog.cellsOf 3)) = some y3 := hg 3 _ rfl
    have u4 : DataW.trod enc Tryd.prog W 0 (fun _ => true) true m 3 ((cs.drop 4).take (Tryd.prog.cellsOf 3)) = some y4 := hg 4 _ rfl
    have u5 : DataW.trod enc Tryd.prog W 0 (fun _ => true) true m 26 ((cs.drop 5).take (Tryd.prog.cellsOf 26)) = some y5 := hg 5 _ rfl
    clear hg hx hf hval hsz
    match cs, hl with
    | c0 :: c1 :: c2 :: c3 :: c4 :: r, hl =>
      have hr : r.length = 35 := by simpa using hl
      rw [hi] at u0 u1 u2 u3 u4
      rw [hu] at u5
      simp only [List.drop_zero, List.drop_succ_cons, List.take_succ_cons, List.take_zero] at u0 u1 u2 u3 u4 u5
      rw [List.take_of_length_le (by omega)] at u5
      obtain ⟨x0, e0, _, w0⟩ := DataW.trod_int Tryd.underlying3 u0
      obtain ⟨x1, e1, _, w1⟩ := DataW.trod_int Tryd.underlying3 u1
      obtain ⟨x2, e2, _, w2⟩ := DataW.trod_int Tryd.underlying3 u2
      obtain ⟨x3, e3, _, w3⟩ := DataW.trod_int Tryd.underlying3 u3
      obtain ⟨x4, e4, _, w4⟩ := DataW.trod_int Tryd.underlying3 u4
      simp at e0 e1 e2 e3 e4
      subst e0 e1 e2 e3 e4
      obtain ⟨K, S, d, l, A, n, c, rfl, h1, h2, h3, h4, h5, h6⟩ := trod_rec u5
      exact ⟨x0, x1, x2, x3, x4, K, S, d, l, A, n, c, rfl, h1, h2, h3, h4, h5, h6, int_wf w0, int_wf w1, int_wf w2, int_wf w3, int_wf w4⟩
end Go.Proofs.YtmdaglcpnakjhaaDoor.rc
