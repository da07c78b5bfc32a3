/- A row and a store anew: newRow, New, Wipe. -/
import Derived.Test.YtnmifaohmafobaaStK
import Derived.Deep.RegionHeld3
namespace Go.Proofs.Ytnmifaohmafobaa.st
open Go.RowKit Mem SM
open Go.Maps (Keyed)
set_option linter.unusedVariables false
variable {w w' : World} {O : Nat → Prop} {s M R : Nat} {L : List Ent}
def zlist : List Value := ckL zeroE zeroD 0 0
theorem zlist_len : zlist.length = 36 := ckL_len _ _ _ _ (by simp [zeroE])
def ZZ (M : Nat) : Array Value := madeCells zlist.toArray ((M + 1) * 36)
theorem ZZ_at (M n j : Nat) (hn : n ≤ M) (hj : j < 36) : (ZZ M)[n * 36 + j]? = zlist[j]? := by
  unfold ZZ madeCells
  have hs : zlist.toArray.size = 36 := by simpa using zlist_len
  have hlt : n * 36 + j < (M + 1) * 36 := by omega
  have hm : (n * 36 + j) % 36 = j := by omega
  have hjl : j < zlist.length := by rw [zlist_len]; exact hj
  simp only [Array.getElem?_map, hs]
  rw [Array.getElem?_range, if_pos hlt, Option.map_some, hm, List.getElem?_eq_getElem hjl]
  simp [hjl]
theorem map_new (w : World) (mb : Nat) (h : w.heap[mb]? = some (.map #[] 0)) (sf : Nat → List UInt8) : MapB w mb [] sf :=
  ⟨.map [], ⟨#[], 0, h, ⟨by simp, Go.MapKept.stamped_empty 0, by simp⟩, Nat.le_refl _, rfl⟩, rfl, (fun n hn => by cases hn), fun s hs _ => ⟨rfl, rfl⟩⟩
/-- the world with a new row -/
def rowW (w : World) (M : Nat) : World := ((w.alloc (.cells (ZZ M) 73)).alloc (.map #[] 0)).alloc (.cells #[.slice (some ⟨w.heap.size, 0, none⟩) (M + 1) (M + 1), .slice none 0 0, .map (some (w.heap.size + 1)), .int .i64 0] 77)
theorem rowW_start (w : World) (M : Nat) (hM : 1 ≤ M ∧ M ≤ 64) : RowG (rowW w M) (fun i => w.heap.size ≤ i) (w.heap.size + 2) w.heap.size M (w.heap.size + 1) none 0 (fun _ => zeroE) (fun _ => zeroD) [] 0 [] (fun _ => []) (fun _ => 0) (fun _ => 0) := by
  obtain ⟨RC, hRC⟩ : ∃ RC, RC = (#[.slice (some ⟨w.heap.size, 0, none⟩) (M + 1) (M + 1), .slice none 0 0, .map (some (w.heap.size + 1)), .int .i64 0] : Array Value) := ⟨_, rfl⟩
  have b0 : (rowW w M).heap[w.heap.size]? = some (.cells (ZZ M) 73 (0, 0)) := by
    unfold rowW
    rw [Below.heap_alloc _ _ _ (by simp; omega), Below.heap_alloc _ _ _ (by simp)]
    exact heap_alloc_new w _
  have b1 : (rowW w M).heap[w.heap.size + 1]? = some (.map #[] 0) := by
    unfold rowW
    rw [Below.heap_alloc _ _ _ (by simp)]
    have := heap_alloc_new (w.alloc (.cells (ZZ M) 73)) (.map #[] 0)
    simpa using this
  have b2 : (rowW w M).heap[w.heap.size + 2]? = some (.cells RC 77 (0, 0)) := by
    rw [hRC]; unfold rowW
    have := heap_alloc_new ((w.alloc (.cells (ZZ M) 73)).alloc (.map #[] 0)) (.cells #[.slice (some ⟨w.heap.size, 0, none⟩) (M + 1) (M + 1), .slice none 0 0, .map (some (w.heap.size + 1)), .int .i64 0] 77)
    simpa using this
  have cz : ∀ n j v, n ≤ M → j < 36 → zlist[j]? = some v → (rowW w M).cell? ⟨w.heap.size, n * 36 + j, none⟩ = some v := fun n j v hn hj hv => by
    rw [cell_of_row _ _ _ _ _ _ b0, ZZ_at M n j hn hj]; exact hv
  obtain ⟨k32, k33, k34, k35, kj⟩ := ckL_at zeroE zeroD 0 0 (by simp [zeroE])
  have cr : ∀ j v, RC[j]? = some v → (rowW w M).cell? ⟨w.heap.size + 2, j, none⟩ = some v := fun j v hv => by
    rw [cell_of_row _ _ _ _ _ _ b2]; exact hv
  refine ⟨⟨cr 0 _ (by rw [hRC]; rfl), fun n hn => cz n 34 _ hn (by omega) k34, fun n hn => cz n 35 _ hn (by omega) k35, fun o => frozen_of_row _ _ o _ _ b0, by omega⟩, fun n hn j v hv => ?_, fun n hn => by simp [zeroE], fun n hn => cz n 32 _ hn (by omega) k32, fun n hn => Nat.le_refl _, fun n hn => Rd.nil _ _ _, fun n hn i hi => by simp [zeroD, blk] at hi, fun n hn => cz n 33 _ hn (by omega) k33, cr 1 _ (by rw [hRC]; rfl), Ow.nil _ _ _, (fun i hi => by simp [blk] at hi), cr 2 _ (by rw [hRC]; rfl), map_new _ _ b1 _, cr 3 _ (by rw [hRC]; rfl), fun o => frozen_of_row _ _ o _ _ b2, ⟨by omega, Nat.le_refl _, by omega⟩, ⟨by omega, by omega⟩, hM, fun n hn => by simp [zeroE]⟩
  have hj : j < 32 := by
    have h1 := (List.getElem?_eq_some_iff.1 hv).1
    rw [bv_len] at h1; simpa [zeroE] using h1
  exact cz n j v hn (by omega) ((kj j hj).trans hv)
theorem info_ck : ∃ i, Try.prog.info? 73 = some i ∧ i.zero = some (.agg zlist.toArray) ∧ i.size = 36 ∧ i.bytes ≤ 100 := by
  have h : (Try.prog.info? 73).map (fun i => (i.zero, i.size, decide (i.bytes ≤ 100))) = some (some (.agg zlist.toArray), 36, true) := by kernel_rfl
  cases hi : Try.prog.info? 73 with
  | none => rw [hi] at h; cases h
  | some i =>
    rw [hi] at h
    simp only [Option.map_some, Option.some.injEq, Prod.mk.injEq] at h
    exact ⟨i, rfl, h.1, h.2.1, of_decide_eq_true h.2.2⟩
theorem below_of_kept {w w' : World} {bad : Nat → Prop} {B : Nat} (k : Kept w w' bad) (hB : B ≤ w.heap.size) (hb : ∀ i, i < w.heap.size → bad i → B ≤ i) : Below B w w' :=
  ⟨k.os, k.tape, k.output, k.size, fun i hi => k.block i (by omega) (fun e => by have := hb i (by omega) e; omega)⟩
def NewRow (M : Nat) (w : World) (e : Ending) (w' : World) : Prop := ∃ FA fc, e = .returned (.pointer (some ⟨w.heap.size + 2, 0, none⟩)) ∧ RowB w' (fun i => w.heap.size ≤ i) (w.heap.size + 2) w.heap.size M (w.heap.size + 1) FA fc (fun _ => zeroE) (fun _ => zeroD) [] (List.range' 1 M) ∧ Below w.heap.size w w'
set_option maxRecDepth 100000 in
set_option maxHeartbeats 2000000 in
theorem newrow_any (M : Nat) (w : World) (hM : 1 ≤ M ∧ M ≤ 64) : Calls Try.prog 42 #[.int .i64 (M : Nat)] w (NewRow M w) := by
  have hmk : ∀ w : World, (Instr.makeSlice 74 (.int .i64 (1 + (M : Int))) (.int .i64 (1 + (M : Int)))).run Try.prog w = .ok (.slice (some ⟨w.heap.size, 0, none⟩) (M + 1) (M + 1)) (w.alloc (.cells (ZZ M) 73)) := by
    intro w
    obtain ⟨i, h1, h2, h3, h4⟩ := info_ck
    have hb : (i.bytes : Int) * (1 + (M : Int)) ≤ 281474976710656 := by
      have h5 : i.bytes * (1 + M) ≤ 100 * 65 := Nat.mul_le_mul h4 (by omega)
      have h6 : ((i.bytes * (1 + M) : Nat) : Int) ≤ 6500 := by omega
      rw [Int.natCast_mul] at h6
      have h7 : ((1 + M : Nat) : Int) = 1 + (M : Int) := by omega
      rw [h7] at h6
      omega
    rw [run_make w 74 73 i _ Try.underlying74 h1 h2 .i64 .i64 (1 + (M : Int)) (1 + (M : Int)) (by omega) (Int.le_refl _) hb (by omega)]
    have e1 : (1 + (M : Int)).toNat = M + 1 := by omega
    rw [e1, h3]
    rfl
  have hmm := @run_makeMap Try.prog
  have hst := rowW_start w M hM
  have HST := Lib.hid hst
  have hW : Hid (rowW w M = ((w.alloc (.cells (ZZ M) 73)).alloc (.map #[] 0)).alloc (.cells #[.slice (some ⟨w.heap.size, 0, none⟩) (M + 1) (M + 1), .slice none 0 0, .map (some (w.heap.size + 1)), .int .i64 0] 77)) := Lib.hid rfl
  have hbw : Below w.heap.size w (rowW w M) := by
    rw [hW.out]
    exact (((Below.refl _ w).alloc (Nat.le_refl _) _).alloc (by simp) _).alloc (by simp; omega) _
  have HBW := Lib.hid hbw
  obtain ⟨Z, hZ⟩ : ∃ Z, ZZ M = Z := ⟨_, rfl⟩
  rw [hZ] at hmk hW
  clear hst hbw hZ
  go_enter Try.func42, Try.ntmps42
  go_wp2_with fail
  rw [show w.heap.size + 1 + 1 = w.heap.size + 2 by omega, ← hW.out]
  go_loopw [4, 12, 13, 14, 15, 16, 17, 18, 19, 20, 21, 22, 23, 24, 25, 26] (fun _ i _ _ _ _ _ _ _ _ _ _ _ _ _ _ wr => ∃ (j fc : Nat) (FA : Option Addr), i = .int .i64 (j : Nat) ∧ j ≤ M ∧ Hid (RowG wr (fun i => w.heap.size ≤ i) (w.heap.size + 2) w.heap.size M (w.heap.size + 1) FA fc (fun _ => zeroE) (fun _ => zeroD) (List.range' 1 j) 0 [] (fun _ => []) (fun _ => 0) (fun _ => 0)) ∧ Hid (Below w.heap.size w wr)) (fun _ i _ _ _ _ _ _ _ _ _ _ _ _ _ _ _ => M - (intOf i).toNat)
  case atStart => exact ⟨0, 0, none, rfl, by omega, HST, HBW⟩
  case round =>
    obtain ⟨j, fc, FA, rfl, hj, HG, HB⟩ := hrel
    by_cases hlt : j < M
    · have h1 : (j : Int) < (M : Int) := by omega
      have g1 := HG.out.c1
      have g2 := HG.out.rz 1
      have go := HG.out.fo
      have gl := HG.out.lt
      have nr : blk FA ≠ some (w.heap.size + 2) := fun e => (HG.out.fb _ e).2.1 rfl
      have hlen : (List.range' 1 j).length = j := List.length_range'
      rw [hlen] at g1 go
      go_wp2_with (first
        | (at_builtin; refine wp_app i64ty rfl (.tmp 19) (.tmp 22) rfl rfl rfl (go.alloc _) (Rd.one _ _ _) (one1 rfl) (by omega) (by omega) (by simp) ?_; intro A' N k' w6 ho6 hN6 hb6 hg6; have K6 := grow_kept hg6; have e1 := (K6.cell (a := ⟨w.heap.size + 2, 1, none⟩) gl.1 nr).trans g1; have e2 := (K6.frozen (a := ⟨w.heap.size + 2, 1, none⟩) gl.1 nr).trans g2)
        | fail)
      have hnv : nv (List.range' 1 j) ++ [.int .i64 (1 + (j : Int))] = nv (List.range' 1 (j + 1)) := by
        rw [List.range'_concat, nv_app]
        congr 1
        simp [nv]
      rw [hnv] at ho6
      have hN : N = (List.range' 1 (j + 1)).length := by
        have := ho6.len
        rw [nv_len] at this
        exact this.symm
      subst hN
      have hG7 := HG.out.setF K6 ho6 (hg6.2.imp id (fun ⟨i, h, e⟩ => ⟨i, by simp at h; omega, e⟩))
      have hsz := HB.out.size
      have hB7 : Below w.heap.size w (w6.setCell ⟨w.heap.size + 2, 1, none⟩ (.slice A' (List.range' 1 (j + 1)).length k')) := (HB.out.trans (below_of_kept K6 hsz (fun i hi e => (HG.out.fb i e).1))).setCell (p := ⟨w.heap.size + 2, 1, none⟩) (by simp) _
      exact ⟨⟨j + 1, k', A', by go_num, by omega, hG7.own (fun i h => by rcases h with h | h <;> omega), hB7⟩, by simp [intOf]; omega⟩
    · obtain rfl : j = M := by omega
      have h1 : ¬ (j : Int) < (j : Int) := by omega
      go_wp2_with fail
      go_ret
      exact ⟨FA, fc, rfl, HG.out.toB ⟨rfl, rfl⟩ (MapB.congr HG.out.mp (fun m hm => by cases hm)) rfl (by rw [List.nil_append]) (by simp [sums]), HB.out⟩
/-- a new store -/
def NewPost (M R : Nat) (w : World) (e : Ending) (w' : World) : Prop := ∃ s, e = .returned (.tuple #[.pointer (some ⟨s, 0, none⟩), .int .i64 0]) ∧ w.heap.size ≤ s ∧ StoreB w' (fun i => w.heap.size ≤ i) s M R [] ∧ Below w.heap.size w w'
set_option maxRecDepth 100000 in
theorem new_any (M R : Nat) (w : World) (hM : 1 ≤ M ∧ M ≤ 64) (hR : 1 ≤ R ∧ R ≤ 8192) :
    Calls Try.prog 13 #[.int .i64 (M : Nat), .int .i64 (R : Nat)] w (NewPost M R w) := by
  have a1 : ¬ (M : Int) < 1 := by omega
  have a2 : ¬ (64 : Int) < (M : Int) := by omega
  have a3 : ¬ (R : Int) < 1 := by omega
  have a4 : ¬ (8192 : Int) < (R : Int) := by omega
  have HN := Lib.hid (newrow_any M w hM)
  go_enter Try.func13, Try.ntmps13
  go_wp2_with (go_at_call 42; refine HN.out.mono ?_; clear HN; rintro e w1 ⟨FA, fc, rfl, hB1, hb1⟩)
  go_ret2
  have hK := Kept.alloc w1 (.cells #[.pointer (some ⟨w.heap.size + 2, 0, none⟩), .int .i64 (M : Int), .int .i64 (R : Int)] 64) (fun _ => False)
  have hbl := hB1.lt
  have hsz := hb1.size
  have hnb := heap_alloc_new w1 (.cells #[.pointer (some ⟨w.heap.size + 2, 0, none⟩), .int .i64 (M : Int), .int .i64 (R : Int)] 64)
  have hc : ∀ j v, (#[.pointer (some ⟨w.heap.size + 2, 0, none⟩), .int .i64 (M : Int), .int .i64 (R : Int)] : Array Value)[j]? = some v → (w1.alloc (.cells #[.pointer (some ⟨w.heap.size + 2, 0, none⟩), .int .i64 (M : Int), .int .i64 (R : Int)] 64)).cell? ⟨w1.heap.size, j, none⟩ = some v := fun j v hv => by
    rw [cell_of_row _ _ _ _ _ _ hnb]; exact hv
  have hG := hB1.kept hK (fun _ _ _ e => e)
  refine ⟨w1.heap.size, rfl, hsz, ⟨⟨w.heap.size + 2, w.heap.size, w.heap.size + 1, FA, fc, fun _ => zeroE, fun _ => zeroD, [], List.range' 1 M, ?_, rfl, hc 0 _ rfl⟩, hc 1 _ rfl, hc 2 _ rfl, hsz, Nat.zero_le _, hR⟩, hb1.alloc hsz _⟩
  obtain ⟨ah, bh, hc2, hg⟩ := hG.toG
  exact ⟨hG.link, hG.sm, hG.len, hG.dc, hG.dn, hG.dr, fun n hn i hi => by simp [zeroD, blk] at hi, hG.hd, hG.c1, hG.fo, fun i hi => ⟨⟨(hG.fb i hi).1, fun e => by have := (hB1.fo.blk_lt i hi).2; omega⟩, (hG.fb i hi).2⟩, hG.c2, hG.mp, hG.c3, hG.rz, hG.pm, hG.dj, ⟨⟨hG.ors.1, by omega⟩, ⟨hG.ors.2.1, by omega⟩, ⟨hG.ors.2.2, by omega⟩⟩, hG.mr, hG.mle, hG.dm⟩
/-- none -/
theorem new_no (M R : Int) (w : World) (h : M < 1 ∨ 64 < M ∨ R < 1 ∨ 8192 < R) :
    Calls Try.prog 13 #[.int .i64 M, .int .i64 R] w fun e w' => e = .returned (.tuple #[.pointer none, .int .i64 1]) ∧ w = w' := by
  by_cases h1 : M < 1
  · go_enter Try.func13, Try.ntmps13
    go_wp2_with fail
    go_ret2
    exact ⟨rfl, rfl⟩
  · by_cases h2 : 64 < M
    · go_enter Try.func13, Try.ntmps13
      go_wp2_with fail
      go_ret2
      exact ⟨rfl, rfl⟩
    · by_cases h3 : R < 1
      · go_enter Try.func13, Try.ntmps13
        go_wp2_with fail
        go_ret2
        exact ⟨rfl, rfl⟩
      · have h4 : 8192 < R := by omega
        clear h
        go_enter Try.func13, Try.ntmps13
        go_wp2_with fail
        go_ret2
        exact ⟨rfl, rfl⟩
/-- a row in another block -/
theorem RowB.moved {O O' : Nat → Prop} {r q g M mb fc : Nat} {FA : Option Addr} {E : Nat → Ent} {D : Nat → Sl} {ns fs : List Nat} (h : RowB w O r g M mb FA fc E D ns fs) (k : Kept w w' (fun i => i = q)) (ho : ∀ i, O i → O' i) (hq : O' q) (nq : ∀ i, O i → i < w.heap.size → i ≠ q)
    (c0 : w'.cell? ⟨q, 0, none⟩ = some (.slice (some ⟨g, 0, none⟩) (M + 1) (M + 1))) (c1 : w'.cell? ⟨q, 1, none⟩ = some (.slice FA fs.length fc)) (c2 : w'.cell? ⟨q, 2, none⟩ = some (.map (some mb))) (c3 : w'.cell? ⟨q, 3, none⟩ = some (.int .i64 (total (ns.map E) : Nat))) (hz : ∀ o, w'.frozen? ⟨q, o, none⟩ = false) :
    RowB w' O' q g M mb FA fc E D ns fs := by
  obtain ⟨l1, l2, l3⟩ := h.lt
  obtain ⟨ah, bh, hl, hc⟩ := h.link
  have ng := nq _ h.ors.2.1 l2
  have nm := nq _ h.ors.2.2 l3
  refine ⟨⟨ah, bh, ⟨c0, fun m hm => ?_, fun m hm => ?_, fun o => ?_, fun e => ng e.symm⟩, hc⟩, fun m hm j v hv => ?_, h.len, fun m hm => ?_, h.dn, fun m hm => ?_, fun m hm i hi => ?_, fun m hm => ?_, c1, k.ow h.fo (fun i hi e => nq i (h.fb i hi).1 (h.fo.blk_lt i hi).2 e), fun i hi => ?_, c2, k.map h.mp nm, c3, hz, h.pm, h.dj, ⟨hq, ho _ h.ors.2.1, ho _ h.ors.2.2⟩, ⟨nm, h.mr.2⟩, h.mle, h.dm⟩
  · rw [k.cell (a := ⟨g, m * 36 + 34, none⟩) l2 ng]; exact hl.ah m hm
  · rw [k.cell (a := ⟨g, m * 36 + 35, none⟩) l2 ng]; exact hl.bh m hm
  · rw [k.frozen (a := ⟨g, o, none⟩) l2 ng]; exact hl.gz o
  · rw [k.cell (a := ⟨g, m * 36 + j, none⟩) l2 ng]; exact h.sm m hm j v hv
  · rw [k.cell (a := ⟨g, m * 36 + 32, none⟩) l2 ng]; exact h.dc m hm
  · exact (k.rd (h.dr m hm) (Nat.le_refl _) (fun i hi hlt e => nq i (h.da m hm i hi).1 hlt e)).more k.size
  · obtain ⟨a1, a2, a3, a4, a5, a6⟩ := h.da m hm i hi
    exact ⟨ho _ a1, nq i a1 a6, a3, a4, a5, Nat.lt_of_lt_of_le a6 k.size⟩
  · rw [k.cell (a := ⟨g, m * 36 + 33, none⟩) l2 ng]; exact h.hd m hm
  · obtain ⟨a1, a2, a3, a4⟩ := h.fb i hi
    exact ⟨ho _ a1, nq i a1 (h.fo.blk_lt i hi).2, a3, a4⟩
set_option maxRecDepth 100000 in
set_option maxHeartbeats 2000000 in
theorem wipe_any (w : World) (h : StoreB w O s M R L) :
    Calls Try.prog 40 #[.pointer (some ⟨s, 0, none⟩)] w fun e w' => e = .returned (.tuple #[]) ∧ StoreB w' (fun i => O i ∨ w.heap.size ≤ i) s M R [] ∧ Kept w w' O := by
  obtain ⟨r, g, mb, FA, fc, E, D, ns, fs, hB, rfl, h0⟩ := h.row
  have c1 := h.c1
  have hmle := hB.mle
  have hm := Lib.hid (made_yes s r w h0)
  have hz := hB.rz
  have hl := hB.lt
  have HN := Lib.hid (fun w' => newrow_any M w' hmle)
  have HB := Lib.hid hB
  have HS := Lib.hid h
  have hls := cell_lt h0
  have hrs : r ≠ s := hB.ors.1.2
  have p1 := hB.c1
  have p2 := hB.c2
  have p3 := hB.c3
  have p0 := (by obtain ⟨_, q, _⟩ := hB.cur; exact q : w.cell? ⟨r, 0, none⟩ = some (.slice (some ⟨g, 0, none⟩) (M + 1) (M + 1)))
  have HP := Lib.hid (And.intro p0 (And.intro p1 (And.intro p2 (And.intro p3 hz))))
  clear hB h p0 p1 p2 p3 hz
  go_enter Try.func40, Try.ntmps40
  go_wp2_with (go_at_call 41; refine hm.out.mono ?_; rintro e w1 ⟨rfl, rfl⟩)
  -- region of wipe
  refine wp_region_held_drew (S := fun w' => w'.cell? ⟨s, 0, none⟩ = some (.pointer (some ⟨r, 0, none⟩)) ∧ w'.cell? ⟨s, 1, none⟩ = some (.int .i64 (M : Nat))) (by kernel_rfl) ⟨h0, c1⟩ (fun hHeld => ?_)
  refine wpAnyH_take (i := 0) (oi := { dst := some 4, op := Op.move (Operand.tmp 0), type := 23, pos := "store.go:233", after := #[], guard := none }) (v := .pointer (some ⟨s, 0, none⟩)) rfl (by kernel_rfl) (by kernel_rfl) (by kernel_rfl) (fun _ _ _ h => h) (Or.inl ⟨by rfl, ?hy0⟩) (by assumption) ?rest0
  case hy0 => (intro w hSw; (try dsimp only at hSw); go_split_ands; go_simp; try with_reducible rfl)
  try simp only [Act.put, List.setIfInBounds_toArray, List.set_cons_zero, List.set_cons_succ]
  refine wpAnyH_take (i := 1) (oi := { dst := some 5, op := Op.nilCheck (Operand.tmp 4), type := 0, pos := "store.go:233", after := #[{ on := 0, ground := Ground.data }], guard := none }) (v := .pointer (some ⟨s, 0, none⟩)) rfl (by kernel_rfl) (by kernel_rfl) (by kernel_rfl) (fun _ _ _ h => h) (Or.inl ⟨by rfl, ?hy1⟩) (by assumption) ?rest1
  case hy1 => (intro w hSw; (try dsimp only at hSw); go_split_ands; go_simp; try with_reducible rfl)
  try simp only [Act.put, List.setIfInBounds_toArray, List.set_cons_zero, List.set_cons_succ]
  refine wpAnyH_take (i := 2) (oi := { dst := some 6, op := Op.fieldAddr 64 (Operand.tmp 5) 0, type := 0, pos := "store.go:233", after := #[{ on := 1, ground := Ground.data }], guard := none }) (v := .pointer (some ⟨s, 0, none⟩)) rfl (by kernel_rfl) (by kernel_rfl) (by kernel_rfl) (fun _ _ _ h => h) (Or.inl ⟨by rfl, ?hy2⟩) (by assumption) ?rest2
  case hy2 => (intro w hSw; (try dsimp only at hSw); go_split_ands; go_simp; try with_reducible rfl)
  try simp only [Act.put, List.setIfInBounds_toArray, List.set_cons_zero, List.set_cons_succ]
  refine wpAnyH_take (i := 3) (oi := { dst := some 7, op := Op.load 62 (Operand.tmp 6), type := 62, pos := "store.go:233", after := #[{ on := 2, ground := Ground.data }], guard := none }) (v := .pointer (some ⟨r, 0, none⟩)) rfl (by kernel_rfl) (by kernel_rfl) (by kernel_rfl) (fun _ _ _ h => h) (Or.inl ⟨by rfl, ?hy3⟩) (by assumption) ?rest3
  case hy3 => (intro w hSw; (try dsimp only at hSw); go_split_ands; go_simp; try with_reducible rfl)
  try simp only [Act.put, List.setIfInBounds_toArray, List.set_cons_zero, List.set_cons_succ]
  refine wpAnyH_take (i := 4) (oi := { dst := some 8, op := Op.move (Operand.tmp 0), type := 23, pos := "store.go:233", after := #[], guard := none }) (v := .pointer (some ⟨s, 0, none⟩)) rfl (by kernel_rfl) (by kernel_rfl) (by kernel_rfl) (fun _ _ _ h => h) (Or.inl ⟨by rfl, ?hy4⟩) (by assumption) ?rest4
  case hy4 => (intro w hSw; (try dsimp only at hSw); go_split_ands; go_simp; try with_reducible rfl)
  try simp only [Act.put, List.setIfInBounds_toArray, List.set_cons_zero, List.set_cons_succ]
  refine wpAnyH_take (i := 5) (oi := { dst := some 9, op := Op.nilCheck (Operand.tmp 8), type := 0, pos := "store.go:233", after := #[{ on := 4, ground := Ground.data }], guard := none }) (v := .pointer (some ⟨s, 0, none⟩)) rfl (by kernel_rfl) (by kernel_rfl) (by kernel_rfl) (fun _ _ _ h => h) (Or.inl ⟨by rfl, ?hy5⟩) (by assumption) ?rest5
  case hy5 => (intro w hSw; (try dsimp only at hSw); go_split_ands; go_simp; try with_reducible rfl)
  try simp only [Act.put, List.setIfInBounds_toArray, List.set_cons_zero, List.set_cons_succ]
  refine wpAnyH_take (i := 6) (oi := { dst := some 10, op := Op.fieldAddr 64 (Operand.tmp 9) 1, type := 0, pos := "store.go:233", after := #[{ on := 5, ground := Ground.data }], guard := none }) (v := .pointer (some ⟨s, 1, none⟩)) rfl (by kernel_rfl) (by kernel_rfl) (by kernel_rfl) (fun _ _ _ h => h) (Or.inl ⟨by rfl, ?hy6⟩) (by assumption) ?rest6
  case hy6 => (intro w hSw; (try dsimp only at hSw); go_split_ands; go_simp; try with_reducible rfl)
  try simp only [Act.put, List.setIfInBounds_toArray, List.set_cons_zero, List.set_cons_succ]
  refine wpAnyH_take (i := 7) (oi := { dst := some 11, op := Op.load 3 (Operand.tmp 10), type := 3, pos := "store.go:233", after := #[{ on := 6, ground := Ground.data }], guard := none }) (v := .int .i64 (M : Nat)) rfl (by kernel_rfl) (by kernel_rfl) (by kernel_rfl) (fun _ _ _ h => h) (Or.inl ⟨by rfl, ?hy7⟩) (by assumption) ?rest7
  case hy7 => (intro w hSw; (try dsimp only at hSw); go_split_ands; go_simp; try with_reducible rfl)
  try simp only [Act.put, List.setIfInBounds_toArray, List.set_cons_zero, List.set_cons_succ]
  refine wpAnyH_ready (rs := [8]) (by kernel_rfl) (by simp) ?_
  refine AllReadyH.cons (o := { dst := some 12, op := Op.call { callee := Callee.value (Operand.func 42), args := #[Operand.tmp 11], argTypes := #[3] }, type := 62, pos := "store.go:233", after := #[{ on := 7, ground := Ground.data }], guard := none }) rfl (fun K hK => ?_) AllReadyH.nil
  go_simp
  refine (HN.out _).mono ?_
  rintro e w5 ⟨FA5, fc5, rfl, hB5, hb5⟩
  replace hB5 : RowB w5 (fun i => w.heap.size ≤ i) (w.heap.size + 2) w.heap.size M (w.heap.size + 1) FA5 fc5 (fun _ => zeroE) (fun _ => zeroD) [] (List.range' 1 M) := hB5
  replace hb5 : Below w.heap.size w w5 := ⟨hb5.os, hb5.tape, hb5.output, hb5.size, hb5.block⟩
  have k0 := (hb5.cell (p := ⟨s, 0, none⟩) hls).trans h0
  have k1 := (hb5.cell (p := ⟨s, 1, none⟩) hls).trans c1
  obtain ⟨_, n0, _, _⟩ := hB5.cur
  have n1 := hB5.c1
  have n2 := hB5.c2
  have n3 := hB5.c3
  have o0 := (hb5.cell (p := ⟨r, 0, none⟩) hl.1).trans HP.out.1
  have o1 := (hb5.cell (p := ⟨r, 1, none⟩) hl.1).trans HP.out.2.1
  have o2 := (hb5.cell (p := ⟨r, 2, none⟩) hl.1).trans HP.out.2.2.1
  have o3 := (hb5.cell (p := ⟨r, 3, none⟩) hl.1).trans HP.out.2.2.2.1
  have z0 := (hb5.frozen (p := ⟨r, 0, none⟩) hl.1).trans (HP.out.2.2.2.2 0)
  have z1 := (hb5.frozen (p := ⟨r, 1, none⟩) hl.1).trans (HP.out.2.2.2.2 1)
  have z2 := (hb5.frozen (p := ⟨r, 2, none⟩) hl.1).trans (HP.out.2.2.2.2 2)
  have z3 := (hb5.frozen (p := ⟨r, 3, none⟩) hl.1).trans (HP.out.2.2.2.2 3)
  have HB5 := Lib.hid hB5
  clear hB5
  go_wp2_with fail
  refine hK.out _ _ (⟨k0, k1⟩) (fun hHeld => ?_)
  clear hK K
  try simp only [Act.put, List.setIfInBounds_toArray, List.set_cons_zero, List.set_cons_succ]
  refine wpAnyH_take (i := 9) (oi := { dst := some 13, op := Op.nilCheck (Operand.tmp 12), type := 0, pos := "store.go:233", after := #[{ on := 8, ground := Ground.data }], guard := none }) (v := .pointer (some ⟨w.heap.size + 2, 0, none⟩)) rfl (by kernel_rfl) (by kernel_rfl) (by kernel_rfl) (fun _ _ _ h => h) (Or.inl ⟨by rfl, ?hy9⟩) (by assumption) ?rest9
  case hy9 => (intro w hSw; (try dsimp only at hSw); go_split_ands; go_simp; try with_reducible rfl)
  try simp only [Act.put, List.setIfInBounds_toArray, List.set_cons_zero, List.set_cons_succ]
  refine wpAnyH_ready (rs := [10]) (by kernel_rfl) (by simp) ?_
  refine AllReadyH.cons (o := { dst := some 14, op := Op.load 77 (Operand.tmp 13), type := 77, pos := "store.go:233", after := #[{ on := 9, ground := Ground.data }], guard := none }) rfl (fun K hK => ?_) AllReadyH.nil
  go_simp
  refine hK.out _ _ (⟨k0, k1⟩) (fun hHeld => ?_)
  clear hK K
  try simp only [Act.put, List.setIfInBounds_toArray, List.set_cons_zero, List.set_cons_succ]
  refine wpAnyH_take (i := 11) (oi := { dst := some 15, op := Op.nilCheck (Operand.tmp 7), type := 0, pos := "store.go:233", after := #[{ on := 3, ground := Ground.data }, { on := 0, ground := Ground.phase }, { on := 1, ground := Ground.phase }, { on := 2, ground := Ground.phase }, { on := 3, ground := Ground.phase }, { on := 4, ground := Ground.phase }, { on := 5, ground := Ground.phase }, { on := 6, ground := Ground.phase }, { on := 7, ground := Ground.phase }, { on := 8, ground := Ground.phase }, { on := 9, ground := Ground.phase }, { on := 10, ground := Ground.phase }], guard := none }) (v := .pointer (some ⟨r, 0, none⟩)) rfl (by kernel_rfl) (by kernel_rfl) (by kernel_rfl) (fun _ _ _ h => h) (Or.inl ⟨by rfl, ?hy11⟩) (by assumption) ?rest11
  case hy11 => (intro w hSw; (try dsimp only at hSw); go_split_ands; go_simp; try with_reducible rfl)
  try simp only [Act.put, List.setIfInBounds_toArray, List.set_cons_zero, List.set_cons_succ]
  refine wpAnyH_ready (rs := [12]) (by kernel_rfl) (by simp) ?_
  refine AllReadyH.cons (o := { dst := none, op := Op.store 77 (Operand.tmp 15) (Operand.tmp 14), type := 0, pos := "store.go:233", after := #[{ on := 11, ground := Ground.data }, { on := 10, ground := Ground.data }, { on := 8, ground := Ground.chain }, { on := 0, ground := Ground.phase }, { on := 1, ground := Ground.phase }, { on := 2, ground := Ground.phase }, { on := 3, ground := Ground.phase }, { on := 4, ground := Ground.phase }, { on := 5, ground := Ground.phase }, { on := 6, ground := Ground.phase }, { on := 7, ground := Ground.phase }, { on := 8, ground := Ground.phase }, { on := 9, ground := Ground.phase }, { on := 10, ground := Ground.phase }], guard := none }) rfl (fun K hK => ?_) AllReadyH.nil
  go_simp
  obtain ⟨FL, hFL⟩ : ∃ FL, FL = Value.slice FA5 M fc5 := ⟨_, rfl⟩
  obtain ⟨w6, hw6⟩ : ∃ w6, w6 = (((w5.setCell ⟨r, 0, none⟩ (.slice (some ⟨w.heap.size, 0, none⟩) (M + 1) (M + 1))).setCell ⟨r, 1, none⟩ (.slice FA5 M fc5)).setCell ⟨r, 2, none⟩ (.map (some (w.heap.size + 1)))).setCell ⟨r, 3, none⟩ (.int .i64 (total [] : Nat)) := ⟨_, rfl⟩
  have hK6 : Kept w5 w6 (fun i => i = r) := by
    rw [hw6]
    exact (((Kept.set w5 r 0 _).trans (Kept.set _ r 1 _) (fun _ _ e => e)).trans (Kept.set _ r 2 _) (fun _ _ e => e)).trans (Kept.set _ r 3 _) (fun _ _ e => e)
  have hfl : (List.range' 1 M).length = M := List.length_range'
  have v0 : w6.cell? ⟨r, 0, none⟩ = some (.slice (some ⟨w.heap.size, 0, none⟩) (M + 1) (M + 1)) := by
    rw [hw6, World.cell?_setCell_other _ _ _ _ (ne_off (by omega)), World.cell?_setCell_other _ _ _ _ (ne_off (by omega)), World.cell?_setCell_other _ _ _ _ (ne_off (by omega))]
    exact World.cell?_setCell_same _ _ _ o0
  have v1 : w6.cell? ⟨r, 1, none⟩ = some (.slice FA5 (List.range' 1 M).length fc5) := by
    rw [hfl, hw6, World.cell?_setCell_other _ _ _ _ (ne_off (by omega)), World.cell?_setCell_other _ _ _ _ (ne_off (by omega))]
    exact World.cell?_setCell_same _ _ _ (by rw [World.cell?_setCell_other _ _ _ _ (ne_off (by omega))]; exact o1)
  have v2 : w6.cell? ⟨r, 2, none⟩ = some (.map (some (w.heap.size + 1))) := by
    rw [hw6, World.cell?_setCell_other _ _ _ _ (ne_off (by omega))]
    exact World.cell?_setCell_same _ _ _ (by rw [World.cell?_setCell_other _ _ _ _ (ne_off (by omega)), World.cell?_setCell_other _ _ _ _ (ne_off (by omega))]; exact o2)
  have v3 : w6.cell? ⟨r, 3, none⟩ = some (.int .i64 (total [] : Nat)) := by
    rw [hw6]
    exact World.cell?_setCell_same _ _ _ (by rw [World.cell?_setCell_other _ _ _ _ (ne_off (by omega)), World.cell?_setCell_other _ _ _ _ (ne_off (by omega)), World.cell?_setCell_other _ _ _ _ (ne_off (by omega))]; exact o3)
  have vz : ∀ o, w6.frozen? ⟨r, o, none⟩ = false := fun o => by
    rw [hw6, frozen_set, frozen_set, frozen_set, frozen_set]
    exact (hb5.frozen (p := ⟨r, o, none⟩) hl.1).trans (HP.out.2.2.2.2 o)
  have k06 := (hK6.cell (a := ⟨s, 0, none⟩) (Nat.lt_of_lt_of_le hls hb5.size) (fun e => hrs e.symm)).trans k0
  have k16 := (hK6.cell (a := ⟨s, 1, none⟩) (Nat.lt_of_lt_of_le hls hb5.size) (fun e => hrs e.symm)).trans k1
  rw [← hw6]
  refine hK.out _ _ ⟨k06, k16⟩ (fun hHeld => ?_)
  clear hK K
  refine wpAnyH_done (by kernel_rfl) ?_ _
  go_wp2_with fail
  go_end0
  have hrow6 := HB5.out.moved (q := r) (O' := fun i => (O i ∧ i ≠ s) ∨ w.heap.size ≤ i) hK6 (fun i h => Or.inr h) (Or.inl HB.out.ors.1) (fun i h hi => by omega) v0 v1 v2 v3 vz
  have hKK : Kept w w6 (fun i => (O i ∧ i ≠ s) ∨ w.heap.size ≤ i) := ((Kept.ofBelow hb5).or hK6).more (fun i hi e => by
    rcases e with e | e
    · exact Or.inr e
    · rw [e]; exact Or.inl HB.out.ors.1)
  refine ⟨rfl, HS.out.again h0 hrow6 (fun i h => ?_) rfl hKK (fun e => ?_) (Or.inl HS.out.os) (Nat.zero_le _), hKK.more (fun i hi e => ?_)⟩
  · rcases h with h | h
    · exact ⟨Or.inl h.1, h.2⟩
    · exact ⟨Or.inr h, by omega⟩
  · rcases e with e | e
    · exact e.2 rfl
    · omega
  · rcases e with e | e
    · exact e.1
    · omega
end Go.Proofs.Ytnmifaohmafobaa.st
