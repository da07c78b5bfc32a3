/- The examples of layer 8's laws come out true; parts that came in; the tables out of the row's list; a world for the witness. -/
import Derived.Test.YtagomegeeijfnaaDoorDgI
import Derived.Test.YtagomegeeijfnaaDoorCards
import Derived.Test.YtagomegeeijfnaaDoorTie
import Derived.ProofKit
import Derived.OpenShut
import Derived.Deep.DeepHandedRow
import Derived.Deep.Matrix
import Derived.Lib.LaidTab
import Derived.Lib.SlBytesConst
namespace Go.Proofs.YtagomegeeijfnaaDoor.dg
open Go.RowKit Mem DM
set_option linter.unusedVariables false
set_option maxRecDepth 100000 in
set_option maxHeartbeats 2000000 in
theorem awake_any (w : World) (hT : Tab w) : Calls Tryd.prog 5 #[] w fun e w' => e = .returned (.bool true) ∧ Below w.heap.size w w' := by
  have hof : Calls Tryd.prog 7 #[.slice (some ⟨w.heap.size + 1 + 1, 0, none⟩) 2 2] (((w.alloc (.cells #[.int .u8 97] 5 (1, 2))).alloc (.cells #[.int .u8 98, .int .u8 99] 5 (2, 3))).alloc (.cells #[.slice (some ⟨w.heap.size, 0, none⟩) 1 1, .slice (some ⟨w.heap.size + 1, 0, none⟩) 2 2] 22))
      fun e w' => ∃ w2, Below w.heap.size w w2 ∧ e = .returned (.agg (bv (digest [97, 98, 99])).toArray) ∧ w2 = w' := by
    have hb1 : Below w.heap.size w (w.alloc (.cells #[.int .u8 97] 5 (1, 2))) := (Below.refl _ _).alloc (Nat.le_refl _) _
    have r1 : Rd (w.alloc (.cells #[.int .u8 97] 5 (1, 2))) (w.heap.size + 1) (some ⟨w.heap.size, 0, none⟩) 1 (bv [97]) := rd_alloc w 5 [.int .u8 97] (1, 2)
    have r2 : Rd ((w.alloc (.cells #[.int .u8 97] 5 (1, 2))).alloc (.cells #[.int .u8 98, .int .u8 99] 5 (2, 3))) (w.heap.size + 1 + 1) (some ⟨w.heap.size + 1, 0, none⟩) 2 (bv [98, 99]) := by
      have := rd_alloc (w.alloc (.cells #[.int .u8 97] 5 (1, 2))) 5 [.int .u8 98, .int .u8 99] (2, 3)
      rw [show (w.alloc (.cells #[.int .u8 97] 5 (1, 2))).heap.size = w.heap.size + 1 by simp] at this
      exact this
    have hb2 : Below (w.heap.size + 1) (w.alloc (.cells #[.int .u8 97] 5 (1, 2))) ((w.alloc (.cells #[.int .u8 97] 5 (1, 2))).alloc (.cells #[.int .u8 98, .int .u8 99] 5 (2, 3))) := (Below.refl _ _).alloc (by simp) _
    have hs2 : ((w.alloc (.cells #[.int .u8 97] 5 (1, 2))).alloc (.cells #[.int .u8 98, .int .u8 99] 5 (2, 3))).heap.size = w.heap.size + 1 + 1 := by simp
    have hp := Parts.two ((r1.below hb2 (Nat.le_refl _)).more (Nat.le_succ _)) (Nat.le_refl 1) r2 (Nat.le_refl 2) (by rw [hs2]; exact Nat.le_refl _) 22
    rw [hs2] at hp
    have hb3 : Below w.heap.size w (((w.alloc (.cells #[.int .u8 97] 5 (1, 2))).alloc (.cells #[.int .u8 98, .int .u8 99] 5 (2, 3))).alloc (.cells #[.slice (some ⟨w.heap.size, 0, none⟩) 1 1, .slice (some ⟨w.heap.size + 1, 0, none⟩) 2 2] 22)) := ((hb1.alloc (by simp) _).alloc (by simp; omega) _)
    refine (of_any _ 2 2 _ _ _ (hT.below hb3) hp (by simp) (by omega) (by decide)).mono ?_
    rintro e w' ⟨rfl, hb⟩
    exact ⟨w', hb3.trans (hb.mono hb3.size), rfl, rfl⟩
  have hdl : (bv (digest [97, 98, 99])).length = 32 := by rw [bv_len]; exact flat_len _
  have hdo := bv_one (digest [97, 98, 99])
  obtain ⟨a1, a2, a3⟩ := abc
  have hd32 : (digest [97, 98, 99]).length = 32 := flat_len _
  have at_ : ∀ k (x : UInt8), k < 32 → (digest [97, 98, 99]).getD k 0 = x → (bv (digest [97, 98, 99]))[k]? = some (.int .u8 (x.toNat : Int)) := fun k x hk hx => by
    rw [bv_at _ k (by omega), ← hx]
    simp [hd32, hk]
  have f0 := at_ 0 _ (by omega) a1
  have f1 := at_ 1 _ (by omega) a2
  have f31 := at_ 31 _ (by omega) a3
  obtain ⟨V, hV⟩ : ∃ V, bv (digest [97, 98, 99]) = V := ⟨_, rfl⟩
  rw [hV] at hdl hdo f0 f1 f31 hof
  have hvs : V.toArray.size = 32 := by rw [List.size_toArray, hdl]
  have hth0 : ∀ (w2 : World) (Z : Array Value), Z = z32.toArray → (w2.alloc (.cells Z 26)).there w2.heap.size 0 32 := fun w2 Z hZ => by
    subst hZ
    have := there_new w2 z32 26
    rw [show z32.length = 32 by simp [z32, bv_len]] at this
    exact this
  have hcv1 : (convert 22 22 (.slice (some ⟨w.heap.size, 0, none⟩) 1 1)).run Tryd.prog (w.alloc (.cells #[.int .u8 97] 5)) = .ok (.slice (some ⟨w.heap.size, 0, none⟩) 1 1) (w.alloc (.cells #[.int .u8 97] 5 (1, 2))) := Lib.run_convert_bytes_const w 22 5 #[.int .u8 97] 1 1 Tryd.underlying22 Tryd.underlying5
  have hcv2 : (convert 22 22 (.slice (some ⟨w.heap.size + 1, 0, none⟩) 2 2)).run Tryd.prog ((w.alloc (.cells #[.int .u8 97] 5 (1, 2))).alloc (.cells #[.int .u8 98, .int .u8 99] 5)) = .ok (.slice (some ⟨w.heap.size + 1, 0, none⟩) 2 2) ((w.alloc (.cells #[.int .u8 97] 5 (1, 2))).alloc (.cells #[.int .u8 98, .int .u8 99] 5 (2, 3))) := by
    have := Lib.run_convert_bytes_const (P := Tryd.prog) (w.alloc (.cells #[.int .u8 97] 5 (1, 2))) 22 5 #[.int .u8 98, .int .u8 99] 2 2 Tryd.underlying22 Tryd.underlying5
    rw [show (w.alloc (.cells #[.int .u8 97] 5 (1, 2))).heap.size = w.heap.size + 1 by simp] at this
    exact this
  have HOF := Lib.hid hof
  have F := Lib.hid (⟨f0, f1, f31⟩ : V[0]? = some (.int .u8 (((0xba : UInt8).toNat : Nat) : Int)) ∧ V[1]? = some (.int .u8 (((0x78 : UInt8).toNat : Nat) : Int)) ∧ V[31]? = some (.int .u8 (((0xad : UInt8).toNat : Nat) : Int)))
  clear hof at_ a1 a2 a3 hd32 hV f0 f1 f31
  go_enter Tryd.func5, Tryd.ntmps5
  go_upto_region 2 with (first
    | (go_at_call 7; refine HOF.out.mono ?_; rintro e w3 ⟨w2, hb3, rfl, rfl⟩)
    | (refine wpList_store_mid rfl 26 (.tmp 1) (.tmp 7) rfl w2.heap.size 0 V.toArray rfl rfl (by rw [hvs]; exact hth0 w2 _ (by rfl)) (by rw [hvs]; kernel_rfl) (all_oneCell_toArray hdo) ?_)
    | fail)
  show Code.wp _ _ _ _ ((w2.alloc (.cells z32.toArray 26)).setCells w2.heap.size 0 V)
  have hr := World.rangeAt_setCells_same (w2.alloc (.cells z32.toArray 26)) w2.heap.size 0 V (by rw [hdl]; exact hth0 w2 _ rfl)
  have hbb : Below w.heap.size w ((w2.alloc (.cells z32.toArray 26)).setCells w2.heap.size 0 V) := (Keep1.sets w2.heap.size V 0 _).below (hb3.alloc hb3.size _) (by have := hb3.size; simp; omega) hb3.size
  obtain ⟨X, hX⟩ : ∃ z, (w2.alloc (.cells z32.toArray 26)).setCells w2.heap.size 0 V = z := ⟨_, rfl⟩
  rw [hX] at hr hbb ⊢
  have g0 : X.cell? ⟨w2.heap.size, 0, none⟩ = some (.int .u8 186) := hr 0 _ F.out.1
  have g1 : X.cell? ⟨w2.heap.size, 1, none⟩ = some (.int .u8 120) := hr 1 _ F.out.2.1
  have g31 : X.cell? ⟨w2.heap.size, 31, none⟩ = some (.int .u8 173) := hr 31 _ F.out.2.2
  clear hX hr HOF F
  go_wp2_with fail
  go_ret
  exact ⟨rfl, hbb⟩
theorem parts_rows {w : World} {a : Addr} {len cap : Nat} {A : Nat → Option Addr} {L C : Nat → Nat} {Z : Nat → List Int} (hl : len ≤ cap)
    (h : ∀ r, r < cap → w.cell? (a.add r) = some (.slice (A r) (L r) (C r)) ∧ L r ≤ C r ∧ C r ≤ maxLen ∧ (Z r).length = C r ∧ (∀ n ∈ Z r, (Lit.int .u8 n).wf = true) ∧ (A r = none → C r = 0) ∧
      ∀ a', A r = some a' → 0 ≤ a'.block ∧ ∀ c, c < C r → w.cell? (a'.add c) = some (.int .u8 ((Z r).getD c 0))) :
    ∃ ls, Parts w w.heap.size (some a) len ls ∧ ∀ l ∈ ls, l.length ≤ 9223372036854775807 := by
  have each : ∀ r, r < cap → ∃ l : List UInt8, l.length = L r ∧ Rd w w.heap.size (A r) (L r) (bv l) := fun r hr => by
    obtain ⟨_, h2, h3, h4, h5, h6, h7⟩ := h r hr
    cases hA : A r with
    | none =>
      have : L r = 0 := by have := h6 hA; omega
      rw [this]
      exact ⟨[], rfl, Rd.nil _ _ _⟩
    | some a' =>
      obtain ⟨l, hl⟩ := rd_bytes h2 h4 (fun i hi => (h7 a' hA).2 i (by omega)) h5
      exact ⟨l, by rw [← bv_len, hl.len], hl⟩
  have hc : ∀ r : Nat, ∃ l : List UInt8, r < cap → l.length = L r ∧ Rd w w.heap.size (A r) (L r) (bv l) := fun r => by
    by_cases hr : r < cap
    · obtain ⟨l, h⟩ := each r hr
      exact ⟨l, fun _ => h⟩
    · exact ⟨[], fun h => absurd h hr⟩
  obtain ⟨f, hf⟩ : ∃ f : Nat → List UInt8, ∀ r, r < cap → (f r).length = L r ∧ Rd w w.heap.size (A r) (L r) (bv (f r)) := ⟨fun r => (hc r).choose, fun r => (hc r).choose_spec⟩
  refine ⟨(List.range len).map f, ⟨by simp, (List.range len).map fun r => .slice (A r) (L r) (C r), ?_, ?_⟩, ?_⟩
  · refine ⟨by simp, fun hn => ?_⟩
    obtain ⟨b, off, spot⟩ := a
    have h0 := (h 0 (by omega)).1
    have hs : spot = none := by simpa [Addr.add] using World.cell?_spot h0
    subst hs
    refine ⟨b, off, rfl, cell_lt (o := off) (by simpa [Addr.add] using h0), fun i hi => ?_⟩
    have := (h i (by omega)).1
    rw [Addr.add_lit] at this
    rw [this]
    simp [hi]
  · intro i hi
    have hi' : i < len := by simpa using hi
    obtain ⟨g1, g2⟩ := hf i (by omega)
    refine ⟨A i, C i, ?_, ?_, ?_⟩
    · simp [hi', g1]
    · simp only [List.getElem_map, List.getElem_range, g1]
      exact (h i (by omega)).2.1
    · simp only [List.getElem_map, List.getElem_range, g1]
      exact g2
  · intro l hl
    obtain ⟨r, hr, rfl⟩ := List.mem_map.1 hl
    have hr' : r < len := by simpa using hr
    have h1 := (hf r (by omega)).1
    have h2 := h r (by omega)
    have h3 := h2.2.2.1
    have h4 := h2.2.1
    unfold maxLen at h3
    omega


theorem own : ownKnob Tryd.prog.godebug = none := by kernel_rfl
theorem laidOut : laidOutB Tryd.prog = true := by kernel_rfl
theorem gRoots : Tryd.prog.globalNamed "flume/digest.roots" = some 0 := by kernel_rfl
theorem gRootsType : (Tryd.prog.globals[0]?).map (·.type) = some 42 := by kernel_rfl
theorem gCubes : Tryd.prog.globalNamed "flume/digest.cubes" = some 1 := by kernel_rfl
theorem gCubesType : (Tryd.prog.globals[1]?).map (·.type) = some 49 := by kernel_rfl
theorem cells8 : Tryd.prog.cellsOf 42 = 8 := by kernel_rfl
theorem cells64 : Tryd.prog.cellsOf 49 = 64 := by kernel_rfl
theorem cellsElem : Tryd.prog.cellsOf 41 = 1 := by kernel_rfl
def intsOf (l : List UInt32) : List Int := l.map fun x => (x.toNat : Int)
theorem range_tab {W : World} {name : String} {g : Nat} (l : List UInt32) (h : Lib.TabIs Tryd.prog W name .u32 (intsOf l)) (hg : Tryd.prog.globalNamed name = some g) : W.rangeAt g 0 (wvs l) := fun j v hj => by
  have hjl : j < l.length := by
    have := (List.getElem?_eq_some_iff.1 hj).1
    rw [wvs_len] at this
    exact this
  have := h.cell hg j (by simpa [intsOf] using hjl)
  rw [Nat.zero_add, this]
  rw [wvs_at l j hjl] at hj
  injection hj with hj
  rw [← hj]
  unfold wv intsOf
  simp [hjl]
theorem table {W : World} {laid : List (String × DataW Unit)} (hl : laid = [("flume/digest.roots", Rows.laid_flume_digest_roots), ("flume/digest.cubes", Rows.laid_flume_digest_cubes)]) (h : laidMetH Tryd.prog laid W) : Tab W := by
  subst hl
  have h' : laidMet Tryd.prog (("flume/digest.roots", Lib.tabData .u32 (intsOf roots)) :: [("flume/digest.cubes", Lib.tabData .u32 (intsOf cubes))]) W := h
  have t1 : Lib.TabIs Tryd.prog W "flume/digest.roots" .u32 (intsOf roots) := Lib.tabIs_of_head gRoots gRootsType Tryd.underlying42 Tryd.underlying41 cellsElem cells8 h'
  have t2 : Lib.TabIs Tryd.prog W "flume/digest.cubes" .u32 (intsOf cubes) := by
    obtain ⟨ps, ⟨g', t', cs, fuel, p, q, hg', ht', hvar, hd, hrest, _⟩, _⟩ := h'
    obtain ⟨g2, t2, cs2, fuel2, p2, q2, hg2, ht2, hvar2, hd2, _, _⟩ := hrest
    obtain rfl := Option.some.inj (gCubes.symm.trans hg2)
    obtain rfl := Option.some.inj (gCubesType.symm.trans ht2)
    unfold Lib.TabIs
    rw [hvar2, ← Lib.cells_of_tab Tryd.underlying49 Tryd.underlying41 cellsElem cells64 hd2]
  exact ⟨range_tab roots t1 gRoots, range_tab cubes t2 gCubes⟩
def laid1 : Obj → Obj
  | .cells _ t frozen => .cells #[.int .u32 1779033703, .int .u32 3144134277, .int .u32 1013904242, .int .u32 2773480762, .int .u32 1359893119, .int .u32 2600822924, .int .u32 528734635, .int .u32 1541459225] t frozen
  | o => o
def laid2 : Obj → Obj
  | .cells _ t frozen => .cells (List.toArray ([.int .u32 1116352408, .int .u32 1899447441, .int .u32 3049323471, .int .u32 3921009573, .int .u32 961987163, .int .u32 1508970993, .int .u32 2453635748, .int .u32 2870763221, .int .u32 3624381080, .int .u32 310598401, .int .u32 607225278, .int .u32 1426881987, .int .u32 1925078388, .int .u32 2162078206, .int .u32 2614888103, .int .u32 3248222580, .int .u32 3835390401, .int .u32 4022224774, .int .u32 264347078, .int .u32 604807628, .int .u32 770255983, .int .u32 1249150122, .int .u32 1555081692, .int .u32 1996064986, .int .u32 2554220882, .int .u32 2821834349, .int .u32 2952996808, .int .u32 3210313671, .int .u32 3336571891, .int .u32 3584528711, .int .u32 113926993, .int .u32 338241895] ++ [.int .u32 666307205, .int .u32 773529912, .int .u32 1294757372, .int .u32 1396182291, .int .u32 1695183700, .int .u32 1986661051, .int .u32 2177026350, .int .u32 2456956037, .int .u32 2730485921, .int .u32 2820302411, .int .u32 3259730800, .int .u32 3345764771, .int .u32 3516065817, .int .u32 3600352804, .int .u32 4094571909, .int .u32 275423344, .int .u32 430227734, .int .u32 506948616, .int .u32 659060556, .int .u32 883997877, .int .u32 958139571, .int .u32 1322822218, .int .u32 1537002063, .int .u32 1747873779, .int .u32 1955562222, .int .u32 2024104815, .int .u32 2227730452, .int .u32 2361852424, .int .u32 2428436474, .int .u32 2756734187, .int .u32 3204031479, .int .u32 3329325298])) t frozen
  | o => o
noncomputable def laidWorld (os : Os) : World :=
  { World.holding Tryd.prog os ⟨#[], #[], []⟩ with heap := ((World.holding Tryd.prog os ⟨#[], #[], []⟩).heap.modify 0 laid1).modify 1 laid2 }
end Go.Proofs.YtagomegeeijfnaaDoor.dg
