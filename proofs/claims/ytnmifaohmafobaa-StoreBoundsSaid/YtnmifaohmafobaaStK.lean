/- A store: Put. -/
import Derived.Test.YtnmifaohmafobaaStJ
import Derived.Test.YtnmifaohmafobaaStM2
namespace Go.Proofs.Ytnmifaohmafobaa.st
open Go.RowKit Mem SM
open Go.Maps (Keyed)
set_option linter.unusedVariables false
variable {w w' : World} {O : Nat → Prop} {s M R : Nat} {L : List Ent}
set_option maxRecDepth 100000 in
theorem put_hit (sm : List UInt8) (A : Option Addr) (k c : Nat) (w : World) (hs : sm.length = 32) (h : StoreB w O s M R L) (hin : sm ∈ sums L) :
    Calls Try.prog 29 #[.pointer (some ⟨s, 0, none⟩), .agg (bv sm).toArray, .slice A k c] w fun e w' => e = .returned (.int .i64 0) ∧ StoreB w' O s M R (SM.use sm L) ∧ Kept w w' O := by
  have hb : Below w.heap.size w (w.alloc (.cells (bv sm).toArray 40)) := (Below.refl _ _).alloc (Nat.le_refl _) _
  obtain ⟨r, g, mb, FA, fc, E, D, xs, n, ys, fs, hB, rfl, hsum, h0⟩ := h.split hin
  have hnM := hB.mem (Or.inl (List.mem_append_right xs (List.mem_cons_self (a := n) (l := ys))))
  have hce : (∃ m ∈ xs ++ n :: ys, (E m).sum = sm ∧ (n : Int) = (m : Nat) ∧ (0 : Int) = 0) ∨ ((∀ m ∈ xs ++ n :: ys, (E m).sum ≠ sm) ∧ (n : Int) = 0 ∧ (0 : Int) = 90) := Or.inl ⟨n, List.mem_append_right _ (by simp), hsum, rfl, rfl⟩
  have hl0 := cell_lt h0
  have h0' : (w.alloc (.cells (bv sm).toArray 40)).cell? ⟨s, 0, none⟩ = some (.pointer (some ⟨r, 0, none⟩)) := by rw [World.cell?_alloc_lt _ _ _ hl0]; exact h0
  have hB' := hB.below hb
  have hrg := sum_there w sm 40
  have HF := Lib.hid (find_any r g mb fc FA E D _ fs sm (n : Int) 0 _ hs hB' h0' hce)
  have HI : (Try.prog.info? 40).map (·.size) = some (bv sm).length := by rw [info_sum, bv_len, hs]
  have HST := Lib.hid h
  have HBB := Lib.hid hB
  have H0 := Lib.hid h0
  obtain ⟨XS, hx⟩ : ∃ XS, bv sm = XS := ⟨_, rfl⟩
  rw [hx] at HF hb hrg HI ⊢
  have hrg := Lib.hid hrg
  have HI := Lib.hid HI
  obtain ⟨K, hK⟩ : ∃ K, XS.toArray = K := ⟨_, rfl⟩
  have HKK := Lib.hid hK
  have HBV := Lib.hid (show (bv sm).toArray = K by rw [hx, hK])
  rw [hK] at HF hb hrg ⊢
  have HB := Lib.hid hb
  clear hx hK hb h0 h0' hB hB' h hce
  have hi1 : (n : Int) < ((M + 1 : Nat) : Int) := by omega
  clear hin
  go_enter Try.func29, Try.ntmps29
  go_wp2_with (first
    | (refine wpList_load_mid rfl 40 (.tmp 4) rfl w.heap.size 0 rfl XS _ hrg.out Try.underlying40 rfl HI.out ?_; rw [HKK.out])
    | (go_at_call 43; refine HF.out.mono ?_; clear HF; rintro e w2 ⟨rfl, hb2⟩; have hbb := HB.out.trans (hb2.mono (by simp)); have hB2 := HBB.out.below hbb; have g0 := (hbb.cell (p := ⟨s, 0, none⟩) hl0).trans H0.out; have HU := Lib.hid (rowuse_any n xs ys w2 hB2); have HBW := Lib.hid hbb; clear hB2 hbb)
    | (go_at_call 44; refine HU.out.mono ?_; clear HU; rintro e w3 ⟨rfl, hB3, hK3⟩)
    | fail)
  go_ret
  have hdj := HBB.out.dj
  rw [List.map_append, List.map_cons] at hdj
  have hK4 := (Kept.ofBelow HBW.out).or hK3
  have hp : (xs ++ ys ++ [n]).Perm (xs ++ n :: ys) := by
    rw [List.append_assoc]
    exact List.Perm.append_left xs List.perm_append_comm
  refine ⟨rfl, HST.out.again H0.out hB3 (fun i h => h) ?_ hK4 (fun e => by
    rcases e with e | e
    · omega
    · exact e.2 rfl) HST.out.os ?_, hK4.more (fun i hi e => by
    rcases e with e | e
    · omega
    · exact e.1)⟩
  · rw [← hsum, List.map_append, List.map_cons, use_split hdj, List.map_append, List.map_append, List.map_singleton]
  · rw [← hsum, List.map_append, List.map_cons, use_split hdj]
    have h1 := total_perm (hp.map E)
    rw [List.map_append, List.map_append, List.map_singleton] at h1
    rw [h1]; exact HST.out.few
set_option maxRecDepth 100000 in
theorem put_full (sm : List UInt8) (A : Option Addr) (k c d : Nat) (w : World) (hs : sm.length = 32) (h : StoreB w O s M R L) (hin : sm ∉ sums L) (hk : k ≤ 281474976710656) (hd : d = k) (hf : full M R d L) :
    Calls Try.prog 29 #[.pointer (some ⟨s, 0, none⟩), .agg (bv sm).toArray, .slice A k c] w fun e w' => e = .returned (.int .i64 7) ∧ Below w.heap.size w w' := by
  subst hd
  have hb : Below w.heap.size w (w.alloc (.cells (bv sm).toArray 40)) := (Below.refl _ _).alloc (Nat.le_refl _) _
  obtain ⟨r, g, mb, FA, fc, E, D, ns, fs, hB, rfl, h0⟩ := h.row
  have hce : (∃ m ∈ ns, (E m).sum = sm ∧ (0 : Int) = (m : Nat) ∧ (90 : Int) = 0) ∨ ((∀ m ∈ ns, (E m).sum ≠ sm) ∧ (0 : Int) = 0 ∧ (90 : Int) = 90) := Or.inr ⟨fun m hm he => hin (mem_sums.2 ⟨m, hm, he⟩), rfl, rfl⟩
  have hl0 := cell_lt h0
  have h0' : (w.alloc (.cells (bv sm).toArray 40)).cell? ⟨s, 0, none⟩ = some (.pointer (some ⟨r, 0, none⟩)) := by rw [World.cell?_alloc_lt _ _ _ hl0]; exact h0
  have hB' := hB.below hb
  have hrg := sum_there w sm 40
  have HF := Lib.hid (find_any r g mb fc FA E D _ fs sm 0 90 _ hs hB' h0' hce)
  have HI : (Try.prog.info? 40).map (·.size) = some (bv sm).length := by rw [info_sum, bv_len, hs]
  have HST := Lib.hid h
  have HBB := Lib.hid hB
  have H0 := Lib.hid h0
  obtain ⟨XS, hx⟩ : ∃ XS, bv sm = XS := ⟨_, rfl⟩
  rw [hx] at HF hb hrg HI ⊢
  have hrg := Lib.hid hrg
  have HI := Lib.hid HI
  obtain ⟨K, hK⟩ : ∃ K, XS.toArray = K := ⟨_, rfl⟩
  have HKK := Lib.hid hK
  have HBV := Lib.hid (show (bv sm).toArray = K by rw [hx, hK])
  rw [hK] at HF hb hrg ⊢
  have HB := Lib.hid hb
  clear hx hK hb h0 h0' hB hB' h hce
  have hfn : fixedN (ns.map E) ≤ 64 := by
    have h1 := fixedN_le (ns.map E)
    have h2 := HBB.out.count
    have h3 := HBB.out.mle.2
    rw [List.length_map] at h1
    omega
  have hfs : fixedS (ns.map E) ≤ 524288 := Nat.le_trans (fixedS_le 8192 _ (fun e he => by
      obtain ⟨y, hy, rfl⟩ := List.mem_map.1 he
      exact HBB.out.dm y (HBB.out.mem (Or.inl hy)).2)) (by
    have h2 := HBB.out.count
    have h3 := HBB.out.mle.2
    rw [List.length_map]; omega)
  have hrr := HST.out.rle
  have hmm := HBB.out.mle
  by_cases hf1 : M ≤ fixedN (ns.map E)
  · have hg1 : (M : Int) ≤ (fixedN (ns.map E) : Int) := by omega
    clear hf
    go_enter Try.func29, Try.ntmps29
    go_wp2_with (first
      | (refine wpList_load_mid rfl 40 (.tmp 4) rfl w.heap.size 0 rfl XS _ hrg.out Try.underlying40 rfl HI.out ?_; rw [HKK.out])
      | (go_at_call 43; refine HF.out.mono ?_; clear HF; rintro e w2 ⟨rfl, hb2⟩; have hbb := HB.out.trans (hb2.mono (by simp)); have hB2 := HBB.out.below hbb; have g0 := (hbb.cell (p := ⟨s, 0, none⟩) hl0).trans H0.out; have HFX := Lib.hid (fixed_any w2 hB2 (Nat.le_trans HST.out.few HST.out.rle.2)); have HBW := Lib.hid hbb; have q1 := (hbb.cell (p := ⟨s, 1, none⟩) hl0).trans HST.out.c1; have q2 := (hbb.cell (p := ⟨s, 2, none⟩) hl0).trans HST.out.c2; clear hB2 hbb)
      | (go_at_call 49; refine HFX.out.mono ?_; clear HFX; rintro e w3 ⟨rfl, hb3⟩; have p1 := (hb3.cell (p := ⟨s, 1, none⟩) (cell_lt q1)).trans q1; have p2 := (hb3.cell (p := ⟨s, 2, none⟩) (cell_lt q2)).trans q2; have HB3 := Lib.hid (HBW.out.trans (hb3.mono HBW.out.size)))
      | fail)
    go_ret
    exact ⟨rfl, HB3.out⟩
  · have hg1 : ¬ (M : Int) ≤ (fixedN (ns.map E) : Int) := by omega
    have hg2 : (R : Int) < (fixedS (ns.map E) : Int) + (d : Int) := by
      rcases hf with h | h
      · exact absurd h hf1
      · omega
    clear hf hf1
    go_enter Try.func29, Try.ntmps29
    go_wp2_with (first
      | (refine wpList_load_mid rfl 40 (.tmp 4) rfl w.heap.size 0 rfl XS _ hrg.out Try.underlying40 rfl HI.out ?_; rw [HKK.out])
      | (go_at_call 43; refine HF.out.mono ?_; clear HF; rintro e w2 ⟨rfl, hb2⟩; have hbb := HB.out.trans (hb2.mono (by simp)); have hB2 := HBB.out.below hbb; have g0 := (hbb.cell (p := ⟨s, 0, none⟩) hl0).trans H0.out; have HFX := Lib.hid (fixed_any w2 hB2 (Nat.le_trans HST.out.few HST.out.rle.2)); have HBW := Lib.hid hbb; have q1 := (hbb.cell (p := ⟨s, 1, none⟩) hl0).trans HST.out.c1; have q2 := (hbb.cell (p := ⟨s, 2, none⟩) hl0).trans HST.out.c2; clear hB2 hbb)
      | (go_at_call 49; refine HFX.out.mono ?_; clear HFX; rintro e w3 ⟨rfl, hb3⟩; have p1 := (hb3.cell (p := ⟨s, 1, none⟩) (cell_lt q1)).trans q1; have p2 := (hb3.cell (p := ⟨s, 2, none⟩) (cell_lt q2)).trans q2; have HB3 := Lib.hid (HBW.out.trans (hb3.mono HBW.out.size)))
      | fail)
    go_ret
    exact ⟨rfl, HB3.out⟩
theorem kept_str {w w1 w2 : World} {bad : Nat → Prop} {B : Nat} (h : Kept w w1 (fun i => bad i ∨ B ≤ i)) (k : Kept w1 w2 (fun i => bad i ∨ B ≤ i)) : Kept w w2 (fun i => bad i ∨ B ≤ i) := h.trans k (fun _ _ e => e)
/-- at the head of the loop that makes room -/
structure Rm (O : Nat → Prop) (s M R d : Nat) (L : List Ent) (w3 wr : World) (Lj : List Ent) : Prop where
  st : StoreB wr (fun i => O i ∨ w3.heap.size ≤ i) s M R Lj
  eq : shrink M R d Lj.length Lj = shrink M R d L.length L
  nf : ¬ full M R d Lj
  sub : Lj.Sublist L
  kept : Kept w3 wr (fun i => (O i ∧ i ≠ s) ∨ w3.heap.size ≤ i)
set_option maxRecDepth 100000 in
set_option maxHeartbeats 4000000 in
theorem put_new1 (sm data : List UInt8) (A : Option Addr) (k c B : Nat) (w : World) (hs : sm.length = 32) (h : StoreB w O s M R L) (hin : sm ∉ sums L) (hd : Rd w B A k (bv data)) (hdo : ∀ i, blk A = some i → i < B → ¬ O i) (hB : B ≤ w.heap.size) (hk : k ≤ 281474976710656) (holt : ∀ i, O i → i < w.heap.size) (hf : ¬ full M R data.length L) :
    Calls Try.prog 29 #[.pointer (some ⟨s, 0, none⟩), .agg (bv sm).toArray, .slice A k c] w fun e w' => e = .returned (.int .i64 0) ∧ StoreB w' (fun i => O i ∨ w.heap.size ≤ i) s M R (shrink M R data.length L.length L ++ [⟨sm, data, 0⟩]) ∧ Kept w w' O := by
  have hdl : data.length = k := by rw [← bv_len]; exact hd.len
  have HSm := Lib.hid hs
  have HD := Lib.hid (And.intro hd hdo)
  have HIN := Lib.hid hin
  have HOLT := Lib.hid holt
  clear hd hdo holt
  rw [hdl] at hf ⊢
  have HDL := Lib.hid hdl
  clear hdl
  have hb : Below w.heap.size w (w.alloc (.cells (bv sm).toArray 40)) := (Below.refl _ _).alloc (Nat.le_refl _) _
  obtain ⟨r, g, mb, FA, fc, E, D, ns, fs, hB, rfl, h0⟩ := h.row
  have hce : (∃ m ∈ ns, (E m).sum = sm ∧ (0 : Int) = (m : Nat) ∧ (90 : Int) = 0) ∨ ((∀ m ∈ ns, (E m).sum ≠ sm) ∧ (0 : Int) = 0 ∧ (90 : Int) = 90) := Or.inr ⟨fun m hm he => hin (mem_sums.2 ⟨m, hm, he⟩), rfl, rfl⟩
  have hl0 := cell_lt h0
  have h0' : (w.alloc (.cells (bv sm).toArray 40)).cell? ⟨s, 0, none⟩ = some (.pointer (some ⟨r, 0, none⟩)) := by rw [World.cell?_alloc_lt _ _ _ hl0]; exact h0
  have hB' := hB.below hb
  have hrg := sum_there w sm 40
  have HF := Lib.hid (find_any r g mb fc FA E D _ fs sm 0 90 _ hs hB' h0' hce)
  have HI : (Try.prog.info? 40).map (·.size) = some (bv sm).length := by rw [info_sum, bv_len, hs]
  have HST := Lib.hid h
  have HBB := Lib.hid hB
  have H0 := Lib.hid h0
  obtain ⟨XS, hx⟩ : ∃ XS, bv sm = XS := ⟨_, rfl⟩
  rw [hx] at HF hb hrg HI ⊢
  have hrg := Lib.hid hrg
  have HI := Lib.hid HI
  obtain ⟨K, hK⟩ : ∃ K, XS.toArray = K := ⟨_, rfl⟩
  have HKK := Lib.hid hK
  have HBV := Lib.hid (show (bv sm).toArray = K by rw [hx, hK])
  rw [hK] at HF hb hrg ⊢
  have HB := Lib.hid hb
  clear hx hK hb h0 h0' hB hB' h hce
  have hfn : fixedN (ns.map E) ≤ 64 := by
    have h1 := fixedN_le (ns.map E)
    have h2 := HBB.out.count
    have h3 := HBB.out.mle.2
    rw [List.length_map] at h1
    omega
  have hfs : fixedS (ns.map E) ≤ 524288 := Nat.le_trans (fixedS_le 8192 _ (fun e he => by
      obtain ⟨y, hy, rfl⟩ := List.mem_map.1 he
      exact HBB.out.dm y (HBB.out.mem (Or.inl hy)).2)) (by
    have h2 := HBB.out.count
    have h3 := HBB.out.mle.2
    rw [List.length_map]; omega)
  have hrr := HST.out.rle
  have hmm := HBB.out.mle
  have hg1 : ¬ (M : Int) ≤ (fixedN (ns.map E) : Int) := by unfold full at hf; omega
  have hg2 : ¬ (R : Int) < (fixedS (ns.map E) : Int) + (k : Int) := by unfold full at hf; omega
  have hk8 : k ≤ 8192 := by unfold full at hf; omega
  have hd1 : decide (M ≤ fixedN (ns.map E)) = false := decide_eq_false (by unfold full at hf; omega)
  have hd2 : decide ((R : Int) < (fixedS (ns.map E) : Int) + (k : Int)) = false := decide_eq_false hg2
  have HF2 := Lib.hid hf
  clear hf hin
  go_enter Try.func29, Try.ntmps29
  go_wp2_with (first
    | (refine wpList_load_mid rfl 40 (.tmp 4) rfl w.heap.size 0 rfl XS _ hrg.out Try.underlying40 rfl HI.out ?_; rw [HKK.out])
    | (go_at_call 43; refine HF.out.mono ?_; clear HF; rintro e w2 ⟨rfl, hb2⟩; have hbb := HB.out.trans (hb2.mono (by simp)); have hB2 := HBB.out.below hbb; have g0 := (hbb.cell (p := ⟨s, 0, none⟩) hl0).trans H0.out; have HFX := Lib.hid (fixed_any w2 hB2 (Nat.le_trans HST.out.few HST.out.rle.2)); have HBW := Lib.hid hbb; have q1 := (hbb.cell (p := ⟨s, 1, none⟩) hl0).trans HST.out.c1; have q2 := (hbb.cell (p := ⟨s, 2, none⟩) hl0).trans HST.out.c2; clear hB2 hbb)
    | (go_at_call 49; refine HFX.out.mono ?_; clear HFX; rintro e w3 ⟨rfl, hb3⟩; have p1 := (hb3.cell (p := ⟨s, 1, none⟩) (cell_lt q1)).trans q1; have p2 := (hb3.cell (p := ⟨s, 2, none⟩) (cell_lt q2)).trans q2; have HB3 := Lib.hid (HBW.out.trans (hb3.mono HBW.out.size)))
    | fail)
  have hrm : Rm O s M R k (ns.map E) w3 w3 (ns.map E) := ⟨(HST.out.below HB3.out).own (fun i h => Or.inl h), rfl, HF2.out, List.Sublist.refl _, Kept.refl _ _⟩
  have HRM := Lib.hid hrm
  have hsl : s < w3.heap.size := cell_lt p1
  have hbox : w.heap.size < w3.heap.size := by have := hb2.size; have := hb3.size; simp at *; omega
  have hbx3 : w3.rangeAt w.heap.size 0 XS := fun j v hv => by
    have h1 : (w.alloc (.cells K 40)).cell? ⟨w.heap.size, 0 + j, none⟩ = some v := hrg.out j v hv
    have h2 := (hb2.cell (p := ⟨w.heap.size, 0 + j, none⟩) (by simp)).trans h1
    exact (hb3.cell (p := ⟨w.heap.size, 0 + j, none⟩) (cell_lt h2)).trans h2
  have HBX := Lib.hid hbx3
  obtain ⟨L0, hL0⟩ : ∃ L0, ns.map E = L0 := ⟨_, rfl⟩
  rw [hL0] at HRM
  have HL0 := Lib.hid hL0
  clear hrm hL0 hfn hfs hg1 hg2 hd1 hd2 p1 p2 q1 q2 g0 hbx3 hb2 hb3
  go_loopg [53, 54, 55, 56, 57, 58, 59, 60, 61, 62, 63, 64, 65, 66, 67, 68, 69, 70, 71, 72, 73, 74, 75, 76, 77, 78, 79, 80, 81, 82, 83, 84, 85, 86] L0.length (fun gk _ _ _ _ _ _ _ _ _ _ _ _ _ _ _ _ _ _ _ _ _ _ _ _ _ _ _ _ _ _ _ _ _ _ wr => ∃ Lj : List Ent, gk = Lj.length ∧ Hid (Rm O s M R k L0 w3 wr Lj))
  case atStart => exact ⟨L0, rfl, HRM⟩
  case round =>
    obtain ⟨Lj, hgk, HR⟩ := hrel
    have hst := HR.out.st
    have hjl : Lj.length ≤ 64 := by
      obtain ⟨r', g', mb', FA', fc', E', D', ns', fs', hB', rfl, h0'⟩ := hst.row
      have := hB'.count
      have := hB'.mle
      rw [List.length_map]; omega
    have hjt := hst.few
    have HLEN := Lib.hid (fun n : Nat => len_any (wr.drewN n) (hst.kept (Kept.drewN wr n (fun _ => False)) (fun _ _ _ e => e)))
    have j1 := hst.c1
    have j2 := hst.c2
    have hkp := HR.out.kept
    have j0 := hsl
    by_cases ht : narrow M R k Lj
    · obtain ⟨r', g', mb', FA', fc', E', D', ns', fs', hB', hLj, h0'⟩ := hst.row
      have hfree := free_exists HR.out.nf ht
      have hnext := shrink_go ht hfree
      rw [hLj] at hfree
      obtain ⟨xs', n', ys', hns, hid, hxh, hnh⟩ := idle_split E' ns' hfree
      have hers : Lj.eraseP isFree = (xs' ++ ys').map E' := by
        rw [hLj, hns, List.map_append, List.map_cons, eraseP_split (fun x hx => by obtain ⟨m, hm, rfl⟩ := List.mem_map.1 hx; exact hxh m hm) hnh, List.map_append]
      have hlt' : (xs' ++ ys').length < gk := by rw [hgk, hLj, hns]; simp
      have hsubl : (Lj.eraseP isFree).Sublist L0 := List.eraseP_sublist.trans HR.out.sub
      have hT8 : total (ns'.map E') ≤ 8192 := by rw [← hLj]; omega
      have hc3 := hB'.c3
      rw [← hLj] at hc3
      have HNX := Lib.hid (And.intro hers (And.intro hnext (And.intro hsubl hlt')))
      have HROW := Lib.hid hB'
      have HIDN := Lib.hid hid
      have HNS := Lib.hid hns
      have HT8 := Lib.hid hT8
      have HST2 := Lib.hid hst
      have HKP := Lib.hid hkp
      have HLJ := Lib.hid hLj
      have HGK := Lib.hid hgk
      clear hers hnext hsubl hlt' hB' hid hns hT8 hst hkp hfree hxh hnh hLj hgk
      have hgd : (decide (M ≤ Lj.length) = true) ∨ ((decide (M ≤ Lj.length) = false) ∧ decide ((R : Int) < (total Lj : Int) + (k : Int)) = true) := by
        unfold narrow at ht
        by_cases h1 : M ≤ Lj.length
        · exact Or.inl (decide_eq_true h1)
        · exact Or.inr ⟨decide_eq_false h1, decide_eq_true (by omega)⟩
      clear ht
      rcases hgd with hgd | ⟨hgd, hgd2⟩
      all_goals
        go_wp2_with fail
        go_quiet ((go_at_call 31; exact Calls.quiet_of_same ((HLEN.out _).mono fun _ _ ⟨h, e⟩ => ⟨h, e.symm⟩)))
        have hrowq := HROW.out.kept (Kept.drewN wr nq (fun _ => False)) (fun _ _ _ e => e)
        have h0q : (wr.drewN nq).cell? ⟨s, 0, none⟩ = some (.pointer (some ⟨r', 0, none⟩)) := h0'
        have hKq := Kept.drewN wr nq (fun i => (O i ∧ i ≠ s) ∨ w3.heap.size ≤ i)
        have hstq := HST2.out.kept (Kept.drewN wr nq (fun _ => False)) (fun _ _ _ e => e)
        clear HLEN h0' hc3 j1 j2
        generalize wr.drewN nq = wq at *
        have hl0q := cell_lt h0q
        have hrowd := hrowq.kept (Kept.drew wq (fun _ => False)) (fun _ _ _ e => e)
        have hidl := idle_any wq.drew hrowd
        unfold idleN at hidl
        rw [HIDN.out] at hidl
        have HIDL := Lib.hid hidl
        have HROWD := Lib.hid hrowd
        have HSTQ := Lib.hid hstq
        have HKQ := Lib.hid hKq
        clear hrowq hidl hrowd hstq hKq
        go_wp2_with fail
        go_region_held3 (fun w' => w'.cell? ⟨s, 0, none⟩ = some (.pointer (some ⟨r', 0, none⟩)))
          (first | exact h0q | (with_reducible assumption) | fail)
          (first
            | (go_at_call 50; refine HIDL.out.mono ?_; clear HIDL; rintro e w5 ⟨rfl, hb5⟩; have h05 := (hb5.cell (p := ⟨s, 0, none⟩) hl0q).trans h0q; have hrow5 := HROWD.out.below hb5; rw [HNS.out] at hrow5; have HRM5 := Lib.hid (remove_any n' xs' ys' w5 hrow5 (by rw [← HNS.out]; exact HT8.out)); clear hrow5)
            | (go_at_call 48; refine HRM5.out.mono ?_; clear HRM5; rintro e w6 ⟨rfl, FA6, fc6, hB6, hK6⟩; have h06 := (hK6.cell (a := ⟨s, 0, none⟩) (Nat.lt_of_lt_of_le hl0q hb5.size) (fun e => e.2 rfl)).trans h05)
            | fail)
        all_goals
          go_wp2_with fail
          obtain ⟨hers, hnext, hsubl, hlt'⟩ := HNX.out
          have hmap : (xs' ++ ys').map (updE E' n' zeroE) = (xs' ++ ys').map E' := by
            have hnx := (List.nodup_cons.1 HROW.out.ring).2
            rw [HNS.out, List.nodup_append] at hnx
            refine List.map_congr_left (fun m hm => updE_other _ _ (fun e => ?_))
            rcases List.mem_append.1 hm with h1 | h1
            · exact hnx.2.2 m h1 n' (by simp) e
            · exact (List.nodup_cons.1 hnx.2.1).1 (by rw [← e]; exact h1)
          have hwq : w3.heap.size ≤ wq.heap.size := (HKP.out.trans HKQ.out (fun _ _ e => e)).size
          have hK56 : Kept wq w6 (fun i => (O i ∧ i ≠ s) ∨ w3.heap.size ≤ i) := (((Kept.drew wq (fun _ => False)).or (Kept.ofBelow hb5)).or hK6).more (fun i hi e => by
            rcases e with (e | e) | e
            · exact e.elim
            · exact Or.inr (Nat.le_trans hwq e)
            · rcases e with ⟨e | e, h⟩
              · exact Or.inl ⟨e, h⟩
              · exact Or.inr e)
          go_roundg ((xs' ++ ys').length)
          case measure => exact hlt'
          case rel =>
            refine ⟨(xs' ++ ys').map E', by rw [List.length_map], ⟨?_, ?_, ?_, ?_, (HKP.out.trans HKQ.out (fun _ _ e => e)).trans hK56 (fun _ _ e => e)⟩⟩
            · refine HSTQ.out.again h0q hB6 (fun i h => ?_) hmap.symm hK56 (fun e => ?_) HSTQ.out.os ?_
              · rcases h with h | h
                · exact h
                · exact ⟨Or.inr (Nat.le_trans hwq (Nat.le_trans hb5.size h)), by have h8 : wq.heap.size ≤ w5.heap.size := hb5.size; omega⟩
              · rcases e with e | e
                · exact e.2 rfl
                · omega
              · rw [← hers]
                exact Nat.le_trans (sublist_total List.eraseP_sublist) HSTQ.out.few
            · rw [← hers]; exact hnext.symm.trans HR.out.eq
            · rw [← hers]; exact fun h => HR.out.nf ((full_erase M R k Lj).1 h)
            · rw [← hers]; exact hsubl
    · obtain ⟨r', g', mb', FA', fc', E', D', ns', fs', hB', hLj, h0'⟩ := hst.row
      have hn1 : decide (M ≤ Lj.length) = false := decide_eq_false (by unfold narrow at ht; omega)
      have hn2 : decide ((R : Int) < (total Lj : Int) + (k : Int)) = false := decide_eq_false (by unfold narrow at ht; omega)
      have hnl : Lj.length < M ∧ total Lj + k ≤ R := by unfold narrow at ht; omega
      have hend := shrink_end ht
      have hc3 := hB'.c3
      rw [← hLj] at hc3
      have HROW := Lib.hid hB'
      have HST2 := Lib.hid hst
      have HKP := Lib.hid hkp
      have HLJ := Lib.hid hLj
      have HEND := Lib.hid (hend.symm.trans HR.out.eq)
      have HNL := Lib.hid hnl
      clear hB' hst hkp hLj hgk hend ht hnl
      go_wp2_with fail
      go_quiet ((go_at_call 31; exact Calls.quiet_of_same ((HLEN.out _).mono fun _ _ ⟨h, e⟩ => ⟨h, e.symm⟩)))
      have hrowq := HROW.out.kept (Kept.drewN wr nq (fun _ => False)) (fun _ _ _ e => e)
      have h0q : (wr.drewN nq).cell? ⟨s, 0, none⟩ = some (.pointer (some ⟨r', 0, none⟩)) := h0'
      have hKq := HKP.out.trans (Kept.drewN wr nq (fun i => (O i ∧ i ≠ s) ∨ w3.heap.size ≤ i)) (fun _ _ e => e)
      have hstq := HST2.out.kept (Kept.drewN wr nq (fun _ => False)) (fun _ _ _ e => e)
      clear HLEN h0' hc3 j1 j2 hn1 hn2
      generalize wr.drewN nq = wq at *
      have hbxq : wq.rangeAt w.heap.size 0 XS := fun j v hv => (hKq.cell (a := ⟨w.heap.size, 0 + j, none⟩) hbox (fun e => by
        rcases e with e | e
        · exact absurd (HOLT.out _ e.1) (Nat.lt_irrefl _)
        · exact absurd e (Nat.not_le.2 hbox))).trans (HBX.out j v hv)
      have hfs1 : fs' ≠ [] := fun e => by
        have h1 := HROW.out.count
        have h2 := HNL.out.1
        rw [HLJ.out, List.length_map] at h2
        rw [e] at h1
        simp at h1
        omega
      obtain ⟨fs0, n0, hfs0⟩ : ∃ fs0 n0, fs' = fs0 ++ [n0] := ⟨fs'.dropLast, fs'.getLast hfs1, (List.dropLast_concat_getLast hfs1).symm⟩
      have hKw : Kept w wq (fun i => (O i ∧ i ≠ s) ∨ w.heap.size ≤ i) := ((Kept.ofBelow HB3.out).or hKq).more (fun i hi e => by
        rcases e with e | e | e
        · exact Or.inr e
        · exact Or.inl e
        · exact Or.inr (by have := HB3.out.size; omega))
      have hdq : Rd wq.drew B A k (bv data) := (hKw.or (Kept.drew wq (fun _ => False))).rd HD.out.1 hB (fun i hi hlt e => by
        rcases e with (e | e) | e
        · exact HD.out.2 i hi hlt e.1
        · omega
        · exact e.elim)
      have hrowd := hrowq.kept (Kept.drew wq (fun _ => False)) (fun _ _ _ e => e)
      rw [hfs0] at hrowd
      have hT : total (ns'.map E') + k ≤ 8192 := by rw [← HLJ.out]; have := HNL.out.2; omega
      have hsubs : ∀ m ∈ ns', (E' m).sum ≠ sm := fun m hm e => HIN.out (by
        have h1 : (E' m) ∈ Lj := by rw [HLJ.out]; exact List.mem_map.2 ⟨m, hm, rfl⟩
        have h2 := HR.out.sub.subset h1
        rw [← HL0.out] at h2
        exact List.mem_map.2 ⟨E' m, h2, e⟩)
      have hwz : w3.heap.size ≤ wq.heap.size := hKq.size
      have HADD := Lib.hid (add_any n0 sm data A k c B wq.drew hrowd HSm.out hdq (fun i hi hlt e => by
        rcases e.1 with e1 | e1
        · exact HD.out.2 i hi hlt e1
        · omega) (by show B ≤ wq.heap.size; omega) hk8 hT hsubs)
      rw [HBV.out] at HADD
      have HI2 := HI.out
      have hu40 := Try.underlying40
      have HBXQ := Lib.hid hbxq
      have HSTQ := Lib.hid hstq
      have HKQ := Lib.hid hKq
      have HKW := Lib.hid hKw
      have HROWQ := Lib.hid hrowq
      have HFS := Lib.hid hfs0
      clear hbxq hfs1 hrowd hdq hsubs hstq hKq hKw hrowq hfs0 hT
      go_wp2_with fail
      refine wp_region_still_tail 6 (by kernel_rfl) (by kernel_rfl) ?_
      simp only [List.take_succ_cons, List.take_zero, List.drop_succ_cons, List.drop_zero]
      repeat still_step
      refine s_load rfl 40 (.tmp 4) rfl w.heap.size 0 rfl XS _ HBXQ.out hu40 rfl HI2 ?_
      go_simp
      repeat still_step
      refine wpStill_nil ?_
      change wpList _ _ _ _ _ wq.drew
      rw [HKK.out]
      go_wp2_with (first
        | (go_at_call 51; refine HADD.out.mono ?_; clear HADD; rintro e w6 ⟨rfl, FA6, fc6, d6, hB6, hK6, hd6⟩)
        | fail)
      go_ret
      have hkk6 : Kept wq w6 (fun i => (O i ∧ i ≠ s) ∨ w3.heap.size ≤ i) := ((Kept.drew wq (fun _ => False)).or hK6).more (fun i hi e => by
        rcases e with e | ⟨e | e, h⟩
        · exact e.elim
        · exact Or.inl ⟨e, h⟩
        · exact Or.inr e)
      have hn0 : n0 ∉ ns' := by
        intro hm
        have hd := HROWQ.out.nodup
        rw [HFS.out, List.nodup_append] at hd
        exact hd.2.2 n0 hm n0 (by simp) rfl
      have hmap : (ns' ++ [n0]).map (updE E' n0 ⟨sm, data, 0⟩) = ns'.map E' ++ [⟨sm, data, 0⟩] := by
        rw [List.map_append, List.map_singleton, updE_same, List.map_congr_left (fun m hm => updE_other E' _ (fun e => hn0 (by rw [← e]; exact hm)))]
      have hLL : shrink M R k L0.length L0 = ns'.map E' := by rw [← HEND.out, HLJ.out]
      have hll : shrink M R k (ns.map E).length (ns.map E) ++ [(⟨sm, data, 0⟩ : Ent)] = (ns' ++ [n0]).map (updE E' n0 ⟨sm, data, 0⟩) := by rw [hmap, HL0.out, hLL]
      have hwz : w3.heap.size ≤ wq.heap.size := HKQ.out.size
      have hw3 : w.heap.size ≤ w3.heap.size := Nat.le_of_lt hbox
      refine ⟨rfl, ?_, ?_⟩
      · refine HSTQ.out.again h0q hB6 (fun i h => ?_) hll hkk6 (fun e => ?_) (Or.inl HST.out.os) ?_
        · rcases h with ⟨h | h, hne⟩ | h
          · exact ⟨Or.inl h, hne⟩
          · exact ⟨Or.inr (Nat.le_trans hw3 h), hne⟩
          · have h9 : wq.heap.size ≤ i := h
            exact ⟨Or.inr (by omega), by omega⟩
        · rcases e with e | e
          · exact e.2 rfl
          · omega
        · rw [HL0.out, hLL, total_append, ← HLJ.out]
          have h9 : total [(⟨sm, data, 0⟩ : Ent)] = k := by rw [← HDL.out]; simp [total]
          rw [h9]
          exact HNL.out.2
      · refine (HKW.out.or hkk6).more (fun i hi e => ?_)
        rcases e with (e | e) | e | e
        · exact e.1
        · omega
        · exact e.1
        · omega
theorem StoreB.near (h : StoreB w O s M R L) : StoreB w (fun i => O i ∧ i < w.heap.size) s M R L := by
  obtain ⟨r, g, mb, FA, fc, E, D, ns, fs, hB, hL, h0⟩ := h.row
  obtain ⟨l1, l2, l3⟩ := hB.lt
  have hsl := cell_lt h0
  refine ⟨⟨r, g, mb, FA, fc, E, D, ns, fs, ⟨hB.link, hB.sm, hB.len, hB.dc, hB.dn, hB.dr, fun n hn i hi => ?_, hB.hd, hB.c1, hB.fo, fun i hi => ?_, hB.c2, hB.mp, hB.c3, hB.rz, hB.pm, hB.dj, ⟨⟨⟨hB.ors.1.1, l1⟩, hB.ors.1.2⟩, ⟨⟨hB.ors.2.1.1, l2⟩, hB.ors.2.1.2⟩, ⟨⟨hB.ors.2.2.1, l3⟩, hB.ors.2.2.2⟩⟩, hB.mr, hB.mle, hB.dm⟩, hL, h0⟩, h.c1, h.c2, ⟨h.os, hsl⟩, h.few, h.rle⟩
  · obtain ⟨a1, a2, a3, a4, a5, a6⟩ := hB.da n hn i hi
    exact ⟨⟨⟨a1.1, a6⟩, a1.2⟩, a2, a3, a4, a5, a6⟩
  · obtain ⟨a1, a2⟩ := hB.fb i hi
    exact ⟨⟨⟨a1.1, (hB.fo.blk_lt i hi).2⟩, a1.2⟩, a2⟩
/-- Put, whatever is there -/
theorem put_any (sm data : List UInt8) (A : Option Addr) (k c B : Nat) (w : World) (hs : sm.length = 32) (h : StoreB w O s M R L) (hd : Rd w B A k (bv data)) (hdo : ∀ i, blk A = some i → i < B → ¬ O i) (hB : B ≤ w.heap.size) (hk : k ≤ 281474976710656) :
    Calls Try.prog 29 #[.pointer (some ⟨s, 0, none⟩), .agg (bv sm).toArray, .slice A k c] w fun e w' => e = .returned (.int .i64 (putE sm data M R L : Nat)) ∧ StoreB w' (fun i => O i ∨ w.heap.size ≤ i) s M R (putL sm data M R L) ∧ Kept w w' O := by
  have hdl : data.length = k := by rw [← bv_len]; exact hd.len
  unfold putE putL
  by_cases hin : sm ∈ sums L
  · rw [if_pos hin, if_pos hin]
    exact (put_hit sm A k c w hs h hin).mono (fun e w' ⟨h1, h2, h3⟩ => ⟨h1, h2.own (fun i h => Or.inl h), h3⟩)
  · rw [if_neg hin, if_neg hin]
    by_cases hf : full M R data.length L
    · rw [if_pos hf, if_pos hf]
      exact (put_full sm A k c data.length w hs h hin hk hdl hf).mono (fun e w' ⟨h1, h2⟩ => ⟨h1, (h.below h2).own (fun i h => Or.inl h), (Kept.ofBelow h2).more (fun i hi e => by omega)⟩)
    · rw [if_neg hf, if_neg hf]
      refine (put_new1 sm data A k c B w hs h.near hin hd (fun i hi hlt e => hdo i hi hlt e.1) hB hk (fun i h => h.2) hf).mono (fun e w' ⟨h1, h2, h3⟩ => ⟨h1, h2.own (fun i h => ?_), h3.more (fun i _ e => e.1)⟩)
      rcases h with h | h
      · exact Or.inl h.1
      · exact Or.inr h
#print axioms put_any
end Go.Proofs.Ytnmifaohmafobaa.st
