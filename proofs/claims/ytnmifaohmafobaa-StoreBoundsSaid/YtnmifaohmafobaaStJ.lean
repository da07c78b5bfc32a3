/- A store: Get, Pin, Unpin, Evict. -/
import Derived.Test.YtnmifaohmafobaaStI
namespace Go.Proofs.Ytnmifaohmafobaa.st
open Go.RowKit Mem SM
open Go.Maps (Keyed)
set_option linter.unusedVariables false
variable {w w' : World} {O : Nat → Prop} {s M R : Nat} {L : List Ent}
theorem sums_app (L K : List Ent) : sums (L ++ K) = sums L ++ sums K := by simp [sums]
theorem not_mem_split {A B : List Ent} {e : Ent} (hd : (sums (A ++ e :: B)).Nodup) : (∀ x ∈ A, x.sum ≠ e.sum) ∧ ∀ x ∈ B, x.sum ≠ e.sum := by
  rw [sums_app, List.nodup_append] at hd
  obtain ⟨_, d2, d3⟩ := hd
  refine ⟨fun x hx he => d3 x.sum (List.mem_map.2 ⟨x, hx, rfl⟩) e.sum (by simp [sums]) he, fun x hx he => ?_⟩
  have : sums (e :: B) = e.sum :: sums B := rfl
  rw [this] at d2
  exact (List.nodup_cons.1 d2).1 (List.mem_map.2 ⟨x, hx, he⟩)
theorem filter_ne {A : List Ent} {t : List UInt8} (h : ∀ x ∈ A, x.sum ≠ t) : A.filter (fun e => e.sum != t) = A := List.filter_eq_self.2 (fun x hx => by simpa using h x hx)
theorem filter_eq {A : List Ent} {t : List UInt8} (h : ∀ x ∈ A, x.sum ≠ t) : A.filter (fun e => e.sum == t) = [] := List.filter_eq_nil_iff.2 (fun x hx => by simpa using h x hx)
theorem use_split {A B : List Ent} {e : Ent} (hd : (sums (A ++ e :: B)).Nodup) : SM.use e.sum (A ++ e :: B) = A ++ B ++ [e] := by
  obtain ⟨h1, h2⟩ := not_mem_split hd
  unfold SM.use
  rw [List.filter_append, List.filter_append, List.filter_cons, List.filter_cons, filter_ne h1, filter_ne h2, filter_eq h1, filter_eq h2]
  simp
theorem evict_split {A B : List Ent} {e : Ent} (hd : (sums (A ++ e :: B)).Nodup) : SM.evict e.sum (A ++ e :: B) = A ++ B := by
  obtain ⟨h1, h2⟩ := not_mem_split hd
  unfold SM.evict
  rw [List.filter_append, List.filter_cons, filter_ne h1, filter_ne h2]
  simp
theorem pin_split {A B : List Ent} {e : Ent} (hd : (sums (A ++ e :: B)).Nodup) : SM.pin e.sum (A ++ e :: B) = A ++ { e with held := e.held + 1 } :: B := by
  obtain ⟨h1, h2⟩ := not_mem_split hd
  unfold SM.pin
  rw [List.map_append, List.map_cons, if_pos rfl]
  congr 1
  · exact (List.map_congr_left (fun x hx => if_neg (h1 x hx))).trans (List.map_id _)
  · congr 1
    exact (List.map_congr_left (fun x hx => if_neg (h2 x hx))).trans (List.map_id _)
theorem unpin_split {A B : List Ent} {e : Ent} (hd : (sums (A ++ e :: B)).Nodup) : SM.unpin e.sum (A ++ e :: B) = A ++ { e with held := e.held - 1 } :: B := by
  obtain ⟨h1, h2⟩ := not_mem_split hd
  unfold SM.unpin
  rw [List.map_append, List.map_cons, if_pos rfl]
  congr 1
  · exact (List.map_congr_left (fun x hx => if_neg (h1 x hx))).trans (List.map_id _)
  · congr 1
    exact (List.map_congr_left (fun x hx => if_neg (h2 x hx))).trans (List.map_id _)
theorem miss_all {L : List Ent} {t : List UInt8} (h : t ∉ sums L) : ∀ x ∈ L, x.sum ≠ t := fun x hx e => h (List.mem_map.2 ⟨x, hx, e⟩)
theorem useM_miss {t : List UInt8} (h : t ∉ sums L) : SM.use t L = L := by unfold SM.use; rw [filter_ne (miss_all h), filter_eq (miss_all h), List.append_nil]
theorem evictM_miss {t : List UInt8} (h : t ∉ sums L) : SM.evict t L = L := filter_ne (miss_all h)
theorem pinM_miss {t : List UInt8} (h : t ∉ sums L) : SM.pin t L = L := (List.map_congr_left (fun x hx => if_neg (miss_all h x hx))).trans (List.map_id _)
theorem unpinM_miss {t : List UInt8} (h : t ∉ sums L) : SM.unpin t L = L := (List.map_congr_left (fun x hx => if_neg (miss_all h x hx))).trans (List.map_id _)
def dataOf (t : List UInt8) (L : List Ent) : List UInt8 := ((L.find? (fun e => e.sum == t)).map (·.data)).getD []
theorem dataOf_split {A B : List Ent} {e : Ent} (hd : (sums (A ++ e :: B)).Nodup) : dataOf e.sum (A ++ e :: B) = e.data := by
  obtain ⟨h1, h2⟩ := not_mem_split hd
  unfold dataOf
  rw [List.find?_append, List.find?_eq_none.2 (fun x hx => by simpa using h1 x hx)]
  simp
def heldOf (t : List UInt8) (L : List Ent) : Nat := ((L.find? (fun e => e.sum == t)).map (·.held)).getD 0
theorem heldOf_split {A B : List Ent} {e : Ent} (hd : (sums (A ++ e :: B)).Nodup) : heldOf e.sum (A ++ e :: B) = e.held := by
  obtain ⟨h1, h2⟩ := not_mem_split hd
  unfold heldOf
  rw [List.find?_append, List.find?_eq_none.2 (fun x hx => by simpa using h1 x hx)]
  simp
/-- a store with a chunk of this digest, taken apart -/
theorem StoreB.split (h : StoreB w O s M R L) {t : List UInt8} (hin : t ∈ sums L) : ∃ r g mb FA fc E D xs n ys fs, RowB w (fun i => O i ∧ i ≠ s) r g M mb FA fc E D (xs ++ n :: ys) fs ∧ L = (xs ++ n :: ys).map E ∧ (E n).sum = t ∧ w.cell? ⟨s, 0, none⟩ = some (.pointer (some ⟨r, 0, none⟩)) := by
  obtain ⟨r, g, mb, FA, fc, E, D, ns, fs, hB, rfl, h2⟩ := h.row
  obtain ⟨n, hn, he⟩ := mem_sums.1 hin
  obtain ⟨xs, ys, rfl⟩ := List.append_of_mem hn
  exact ⟨r, g, mb, FA, fc, E, D, xs, n, ys, fs, hB, rfl, he, h2⟩
theorem get_miss (sm : List UInt8) (w : World) (hs : sm.length = 32) (h : StoreB w O s M R L) (hin : sm ∉ sums L) :
    Calls Try.prog 18 #[.pointer (some ⟨s, 0, none⟩), .agg (bv sm).toArray] w fun e w' => e = .returned (.tuple #[.slice none 0 0, .int .i64 90]) ∧ Below w.heap.size w w' := by
  have hb : Below w.heap.size w (w.alloc (.cells (bv sm).toArray 40)) := (Below.refl _ _).alloc (Nat.le_refl _) _
  obtain ⟨r, g, mb, FA, fc, E, D, ns, fs, hB, rfl, h0⟩ := h.row
  have hce : (∃ m ∈ ns, (E m).sum = sm ∧ (0 : Int) = (m : Nat) ∧ (90 : Int) = 0) ∨ ((∀ m ∈ ns, (E m).sum ≠ sm) ∧ (0 : Int) = 0 ∧ (90 : Int) = 90) := Or.inr ⟨fun m hm he => hin (mem_sums.2 ⟨m, hm, he⟩), rfl, rfl⟩
  have hl0 := cell_lt h0
  have h0' : (w.alloc (.cells (bv sm).toArray 40)).cell? ⟨s, 0, none⟩ = some (.pointer (some ⟨r, 0, none⟩)) := by rw [World.cell?_alloc_lt _ _ _ hl0]; exact h0
  have hB' := hB.below hb
  have hrg := sum_there w sm 40
  have HF := Lib.hid (find_any r g mb fc FA E D _ fs sm 0 90 _ hs hB' h0' hce)
  have HI : (Try.prog.info? 40).map (·.size) = some (bv sm).length := by rw [info_sum, bv_len, hs]
  have HST := Lib.hid h
  have HBB := Lib.hid hB
  have H0 := Lib.hid h0
  obtain ⟨XS, hx⟩ : ∃ XS, bv sm = XS := ⟨_, rfl⟩
  rw [hx] at HF hb hrg HI ⊢
  have hrg := Lib.hid hrg
  have HI := Lib.hid HI
  obtain ⟨K, hK⟩ : ∃ K, XS.toArray = K := ⟨_, rfl⟩
  have HKK := Lib.hid hK
  have HBV := Lib.hid (show (bv sm).toArray = K by rw [hx, hK])
  rw [hK] at HF hb hrg ⊢
  have HB := Lib.hid hb
  clear hx hK hb h0 h0' hB hB' h hce
  go_enter Try.func18, Try.ntmps18
  go_wp2_with (first
    | (refine wpList_load_mid rfl 40 (.tmp 3) rfl w.heap.size 0 rfl XS _ hrg.out Try.underlying40 rfl HI.out ?_; rw [HKK.out])
    | (go_at_call 43; refine HF.out.mono ?_; clear HF; rintro e w2 ⟨rfl, hb2⟩)
    | fail)
  go_ret2
  exact ⟨rfl, HB.out.trans (hb2.mono (by simp))⟩
theorem pin_miss (sm : List UInt8) (w : World) (hs : sm.length = 32) (h : StoreB w O s M R L) (hin : sm ∉ sums L) :
    Calls Try.prog 22 #[.pointer (some ⟨s, 0, none⟩), .agg (bv sm).toArray] w fun e w' => e = .returned (.int .i64 90) ∧ Below w.heap.size w w' := by
  have hb : Below w.heap.size w (w.alloc (.cells (bv sm).toArray 40)) := (Below.refl _ _).alloc (Nat.le_refl _) _
  obtain ⟨r, g, mb, FA, fc, E, D, ns, fs, hB, rfl, h0⟩ := h.row
  have hce : (∃ m ∈ ns, (E m).sum = sm ∧ (0 : Int) = (m : Nat) ∧ (90 : Int) = 0) ∨ ((∀ m ∈ ns, (E m).sum ≠ sm) ∧ (0 : Int) = 0 ∧ (90 : Int) = 90) := Or.inr ⟨fun m hm he => hin (mem_sums.2 ⟨m, hm, he⟩), rfl, rfl⟩
  have hl0 := cell_lt h0
  have h0' : (w.alloc (.cells (bv sm).toArray 40)).cell? ⟨s, 0, none⟩ = some (.pointer (some ⟨r, 0, none⟩)) := by rw [World.cell?_alloc_lt _ _ _ hl0]; exact h0
  have hB' := hB.below hb
  have hrg := sum_there w sm 40
  have HF := Lib.hid (find_any r g mb fc FA E D _ fs sm 0 90 _ hs hB' h0' hce)
  have HI : (Try.prog.info? 40).map (·.size) = some (bv sm).length := by rw [info_sum, bv_len, hs]
  have HST := Lib.hid h
  have HBB := Lib.hid hB
  have H0 := Lib.hid h0
  obtain ⟨XS, hx⟩ : ∃ XS, bv sm = XS := ⟨_, rfl⟩
  rw [hx] at HF hb hrg HI ⊢
  have hrg := Lib.hid hrg
  have HI := Lib.hid HI
  obtain ⟨K, hK⟩ : ∃ K, XS.toArray = K := ⟨_, rfl⟩
  have HKK := Lib.hid hK
  have HBV := Lib.hid (show (bv sm).toArray = K by rw [hx, hK])
  rw [hK] at HF hb hrg ⊢
  have HB := Lib.hid hb
  clear hx hK hb h0 h0' hB hB' h hce
  go_enter Try.func22, Try.ntmps22
  go_wp2_with (first
    | (refine wpList_load_mid rfl 40 (.tmp 3) rfl w.heap.size 0 rfl XS _ hrg.out Try.underlying40 rfl HI.out ?_; rw [HKK.out])
    | (go_at_call 43; refine HF.out.mono ?_; clear HF; rintro e w2 ⟨rfl, hb2⟩)
    | fail)
  go_ret
  exact ⟨rfl, HB.out.trans (hb2.mono (by simp))⟩
theorem unpin_miss (sm : List UInt8) (w : World) (hs : sm.length = 32) (h : StoreB w O s M R L) (hin : sm ∉ sums L) :
    Calls Try.prog 24 #[.pointer (some ⟨s, 0, none⟩), .agg (bv sm).toArray] w fun e w' => e = .returned (.int .i64 90) ∧ Below w.heap.size w w' := by
  have hb : Below w.heap.size w (w.alloc (.cells (bv sm).toArray 40)) := (Below.refl _ _).alloc (Nat.le_refl _) _
  obtain ⟨r, g, mb, FA, fc, E, D, ns, fs, hB, rfl, h0⟩ := h.row
  have hce : (∃ m ∈ ns, (E m).sum = sm ∧ (0 : Int) = (m : Nat) ∧ (90 : Int) = 0) ∨ ((∀ m ∈ ns, (E m).sum ≠ sm) ∧ (0 : Int) = 0 ∧ (90 : Int) = 90) := Or.inr ⟨fun m hm he => hin (mem_sums.2 ⟨m, hm, he⟩), rfl, rfl⟩
  have hl0 := cell_lt h0
  have h0' : (w.alloc (.cells (bv sm).toArray 40)).cell? ⟨s, 0, none⟩ = some (.pointer (some ⟨r, 0, none⟩)) := by rw [World.cell?_alloc_lt _ _ _ hl0]; exact h0
  have hB' := hB.below hb
  have hrg := sum_there w sm 40
  have HF := Lib.hid (find_any r g mb fc FA E D _ fs sm 0 90 _ hs hB' h0' hce)
  have HI : (Try.prog.info? 40).map (·.size) = some (bv sm).length := by rw [info_sum, bv_len, hs]
  have HST := Lib.hid h
  have HBB := Lib.hid hB
  have H0 := Lib.hid h0
  obtain ⟨XS, hx⟩ : ∃ XS, bv sm = XS := ⟨_, rfl⟩
  rw [hx] at HF hb hrg HI ⊢
  have hrg := Lib.hid hrg
  have HI := Lib.hid HI
  obtain ⟨K, hK⟩ : ∃ K, XS.toArray = K := ⟨_, rfl⟩
  have HKK := Lib.hid hK
  have HBV := Lib.hid (show (bv sm).toArray = K by rw [hx, hK])
  rw [hK] at HF hb hrg ⊢
  have HB := Lib.hid hb
  clear hx hK hb h0 h0' hB hB' h hce
  go_enter Try.func24, Try.ntmps24
  go_wp2_with (first
    | (refine wpList_load_mid rfl 40 (.tmp 3) rfl w.heap.size 0 rfl XS _ hrg.out Try.underlying40 rfl HI.out ?_; rw [HKK.out])
    | (go_at_call 43; refine HF.out.mono ?_; clear HF; rintro e w2 ⟨rfl, hb2⟩)
    | fail)
  go_ret
  exact ⟨rfl, HB.out.trans (hb2.mono (by simp))⟩
theorem evict_miss (sm : List UInt8) (w : World) (hs : sm.length = 32) (h : StoreB w O s M R L) (hin : sm ∉ sums L) :
    Calls Try.prog 26 #[.pointer (some ⟨s, 0, none⟩), .agg (bv sm).toArray] w fun e w' => e = .returned (.int .i64 90) ∧ Below w.heap.size w w' := by
  have hb : Below w.heap.size w (w.alloc (.cells (bv sm).toArray 40)) := (Below.refl _ _).alloc (Nat.le_refl _) _
  obtain ⟨r, g, mb, FA, fc, E, D, ns, fs, hB, rfl, h0⟩ := h.row
  have hce : (∃ m ∈ ns, (E m).sum = sm ∧ (0 : Int) = (m : Nat) ∧ (90 : Int) = 0) ∨ ((∀ m ∈ ns, (E m).sum ≠ sm) ∧ (0 : Int) = 0 ∧ (90 : Int) = 90) := Or.inr ⟨fun m hm he => hin (mem_sums.2 ⟨m, hm, he⟩), rfl, rfl⟩
  have hl0 := cell_lt h0
  have h0' : (w.alloc (.cells (bv sm).toArray 40)).cell? ⟨s, 0, none⟩ = some (.pointer (some ⟨r, 0, none⟩)) := by rw [World.cell?_alloc_lt _ _ _ hl0]; exact h0
  have hB' := hB.below hb
  have hrg := sum_there w sm 40
  have HF := Lib.hid (find_any r g mb fc FA E D _ fs sm 0 90 _ hs hB' h0' hce)
  have HI : (Try.prog.info? 40).map (·.size) = some (bv sm).length := by rw [info_sum, bv_len, hs]
  have HST := Lib.hid h
  have HBB := Lib.hid hB
  have H0 := Lib.hid h0
  obtain ⟨XS, hx⟩ : ∃ XS, bv sm = XS := ⟨_, rfl⟩
  rw [hx] at HF hb hrg HI ⊢
  have hrg := Lib.hid hrg
  have HI := Lib.hid HI
  obtain ⟨K, hK⟩ : ∃ K, XS.toArray = K := ⟨_, rfl⟩
  have HKK := Lib.hid hK
  have HBV := Lib.hid (show (bv sm).toArray = K by rw [hx, hK])
  rw [hK] at HF hb hrg ⊢
  have HB := Lib.hid hb
  clear hx hK hb h0 h0' hB hB' h hce
  go_enter Try.func26, Try.ntmps26
  go_wp2_with (first
    | (refine wpList_load_mid rfl 40 (.tmp 3) rfl w.heap.size 0 rfl XS _ hrg.out Try.underlying40 rfl HI.out ?_; rw [HKK.out])
    | (go_at_call 43; refine HF.out.mono ?_; clear HF; rintro e w2 ⟨rfl, hb2⟩)
    | fail)
  go_ret
  exact ⟨rfl, HB.out.trans (hb2.mono (by simp))⟩
theorem pin_total (t : List UInt8) (L : List Ent) : total (SM.pin t L) = total L := by
  unfold total SM.pin
  rw [List.map_map]
  congr 1
  exact List.map_congr_left (fun x _ => by simp only [Function.comp]; split <;> rfl)
theorem unpin_total (t : List UInt8) (L : List Ent) : total (SM.unpin t L) = total L := by
  unfold total SM.unpin
  rw [List.map_map]
  congr 1
  exact List.map_congr_left (fun x _ => by simp only [Function.comp]; split <;> rfl)
set_option maxRecDepth 100000 in
theorem pin_hit (sm : List UInt8) (w : World) (hs : sm.length = 32) (h : StoreB w O s M R L) (hin : sm ∈ sums L) (hh : ∀ e ∈ L, e.held < 4611686018427387904) :
    Calls Try.prog 22 #[.pointer (some ⟨s, 0, none⟩), .agg (bv sm).toArray] w fun e w' => e = .returned (.int .i64 0) ∧ StoreB w' O s M R (SM.pin sm L) ∧ Kept w w' O := by
  have hb : Below w.heap.size w (w.alloc (.cells (bv sm).toArray 40)) := (Below.refl _ _).alloc (Nat.le_refl _) _
  obtain ⟨r, g, mb, FA, fc, E, D, xs, n, ys, fs, hB, rfl, hsum, h0⟩ := h.split hin
  have hnM := hB.mem (Or.inl (List.mem_append_right xs (List.mem_cons_self (a := n) (l := ys))))
  have hce : (∃ m ∈ xs ++ n :: ys, (E m).sum = sm ∧ (n : Int) = (m : Nat) ∧ (0 : Int) = 0) ∨ ((∀ m ∈ xs ++ n :: ys, (E m).sum ≠ sm) ∧ (n : Int) = 0 ∧ (0 : Int) = 90) := Or.inl ⟨n, List.mem_append_right _ (by simp), hsum, rfl, rfl⟩
  have hl0 := cell_lt h0
  have h0' : (w.alloc (.cells (bv sm).toArray 40)).cell? ⟨s, 0, none⟩ = some (.pointer (some ⟨r, 0, none⟩)) := by rw [World.cell?_alloc_lt _ _ _ hl0]; exact h0
  have hB' := hB.below hb
  have hrg := sum_there w sm 40
  have HF := Lib.hid (find_any r g mb fc FA E D _ fs sm (n : Int) 0 _ hs hB' h0' hce)
  have HI : (Try.prog.info? 40).map (·.size) = some (bv sm).length := by rw [info_sum, bv_len, hs]
  have HST := Lib.hid h
  have HBB := Lib.hid hB
  have H0 := Lib.hid h0
  obtain ⟨XS, hx⟩ : ∃ XS, bv sm = XS := ⟨_, rfl⟩
  rw [hx] at HF hb hrg HI ⊢
  have hrg := Lib.hid hrg
  have HI := Lib.hid HI
  obtain ⟨K, hK⟩ : ∃ K, XS.toArray = K := ⟨_, rfl⟩
  have HKK := Lib.hid hK
  have HBV := Lib.hid (show (bv sm).toArray = K by rw [hx, hK])
  rw [hK] at HF hb hrg ⊢
  have HB := Lib.hid hb
  clear hx hK hb h0 h0' hB hB' h hce
  have hhn := hh (E n) (List.mem_map.2 ⟨n, List.mem_append_right _ (by simp), rfl⟩)
  have hi1 : (n : Int) < ((M + 1 : Nat) : Int) := by omega
  clear hh hin
  go_enter Try.func22, Try.ntmps22
  go_wp2_with (first
    | (refine wpList_load_mid rfl 40 (.tmp 3) rfl w.heap.size 0 rfl XS _ hrg.out Try.underlying40 rfl HI.out ?_; rw [HKK.out])
    | (go_at_call 43; refine HF.out.mono ?_; clear HF; rintro e w2 ⟨rfl, hb2⟩; have hbb := HB.out.trans (hb2.mono (by simp)); have hB2 := HBB.out.below hbb; have g0 := (hbb.cell (p := ⟨s, 0, none⟩) hl0).trans H0.out; have g1 := hB2.cur; obtain ⟨_, g1, _⟩ := g1; have g2 := (hbb.cell (p := ⟨r, 0, none⟩) HBB.out.lt.1).trans (by obtain ⟨_, q, _⟩ := HBB.out.cur; exact q); have g3 := hB2.hd n hnM.2; have g4 : w2.frozen? ⟨g, n * 36 + 33, none⟩ = false := (by obtain ⟨ah, bh, ql, _⟩ := hB2.link; exact ql.gz _); have HB2 := Lib.hid hB2; have HBW := Lib.hid hbb; clear hB2 hbb)
    | fail)
  go_ret
  have hG := HB2.out.setH n hnM.2 ((E n).held + 1)
  have hcast : (((E n).held + 1 : Nat) : Int) = ((E n).held : Int) + 1 := by omega
  rw [hcast] at hG
  have hK := (Kept.ofBelow HBW.out).or (Kept.set w2 g (n * 36 + 33) (.int .i64 (((E n).held : Int) + 1)))
  have hnx := HBB.out.ring
  refine ⟨rfl, HST.out.again H0.out hG (fun i h => h) ?_ hK (fun e => by
      rcases e with e | e
      · omega
      · exact HBB.out.ors.2.1.2 e.symm) HST.out.os ?_, hK.more (fun i hi e => by
    rcases e with e | e
    · omega
    · rw [e]; exact HBB.out.ors.2.1.1)⟩
  · have hd := (List.nodup_cons.1 hnx).2
    rw [List.nodup_append] at hd
    have hdj := HBB.out.dj
    rw [List.map_append, List.map_cons] at hdj
    rw [← hsum, List.map_append, List.map_cons, pin_split hdj, List.map_append, List.map_cons, updE_same]
    congr 1
    · exact List.map_congr_left (fun m hm => (updE_other _ _ (fun e => hd.2.2 m hm n (by simp) e)).symm)
    · congr 1
      exact List.map_congr_left (fun m hm => (updE_other _ _ (fun e => (List.nodup_cons.1 hd.2.1).1 (by rw [← e]; exact hm))).symm)
  · rw [pin_total]; exact HST.out.few
set_option maxRecDepth 100000 in
theorem unpin_hit (sm : List UInt8) (w : World) (hs : sm.length = 32) (h : StoreB w O s M R L) (hin : sm ∈ sums L) (hh : ∀ e ∈ L, e.held < 4611686018427387904) (hz : heldOf sm L ≠ 0) :
    Calls Try.prog 24 #[.pointer (some ⟨s, 0, none⟩), .agg (bv sm).toArray] w fun e w' => e = .returned (.int .i64 0) ∧ StoreB w' O s M R (SM.unpin sm L) ∧ Kept w w' O := by
  have hb : Below w.heap.size w (w.alloc (.cells (bv sm).toArray 40)) := (Below.refl _ _).alloc (Nat.le_refl _) _
  obtain ⟨r, g, mb, FA, fc, E, D, xs, n, ys, fs, hB, rfl, hsum, h0⟩ := h.split hin
  have hnM := hB.mem (Or.inl (List.mem_append_right xs (List.mem_cons_self (a := n) (l := ys))))
  have hce : (∃ m ∈ xs ++ n :: ys, (E m).sum = sm ∧ (n : Int) = (m : Nat) ∧ (0 : Int) = 0) ∨ ((∀ m ∈ xs ++ n :: ys, (E m).sum ≠ sm) ∧ (n : Int) = 0 ∧ (0 : Int) = 90) := Or.inl ⟨n, List.mem_append_right _ (by simp), hsum, rfl, rfl⟩
  have hl0 := cell_lt h0
  have h0' : (w.alloc (.cells (bv sm).toArray 40)).cell? ⟨s, 0, none⟩ = some (.pointer (some ⟨r, 0, none⟩)) := by rw [World.cell?_alloc_lt _ _ _ hl0]; exact h0
  have hB' := hB.below hb
  have hrg := sum_there w sm 40
  have HF := Lib.hid (find_any r g mb fc FA E D _ fs sm (n : Int) 0 _ hs hB' h0' hce)
  have HI : (Try.prog.info? 40).map (·.size) = some (bv sm).length := by rw [info_sum, bv_len, hs]
  have HST := Lib.hid h
  have HBB := Lib.hid hB
  have H0 := Lib.hid h0
  obtain ⟨XS, hx⟩ : ∃ XS, bv sm = XS := ⟨_, rfl⟩
  rw [hx] at HF hb hrg HI ⊢
  have hrg := Lib.hid hrg
  have HI := Lib.hid HI
  obtain ⟨K, hK⟩ : ∃ K, XS.toArray = K := ⟨_, rfl⟩
  have HKK := Lib.hid hK
  have HBV := Lib.hid (show (bv sm).toArray = K by rw [hx, hK])
  rw [hK] at HF hb hrg ⊢
  have HB := Lib.hid hb
  clear hx hK hb h0 h0' hB hB' h hce
  have hhn := hh (E n) (List.mem_map.2 ⟨n, List.mem_append_right _ (by simp), rfl⟩)
  have hdz := HBB.out.dj
  rw [List.map_append, List.map_cons] at hdz hz
  rw [← hsum, heldOf_split hdz] at hz
  have hz0 : (((E n).held : Int) == 0) = false := by simp; omega
  clear hdz
  have hi1 : (n : Int) < ((M + 1 : Nat) : Int) := by omega
  clear hh hin
  go_enter Try.func24, Try.ntmps24
  go_wp2_with (first
    | (refine wpList_load_mid rfl 40 (.tmp 3) rfl w.heap.size 0 rfl XS _ hrg.out Try.underlying40 rfl HI.out ?_; rw [HKK.out])
    | (go_at_call 43; refine HF.out.mono ?_; clear HF; rintro e w2 ⟨rfl, hb2⟩; have hbb := HB.out.trans (hb2.mono (by simp)); have hB2 := HBB.out.below hbb; have g0 := (hbb.cell (p := ⟨s, 0, none⟩) hl0).trans H0.out; have g1 := hB2.cur; obtain ⟨_, g1, _⟩ := g1; have g2 := (hbb.cell (p := ⟨r, 0, none⟩) HBB.out.lt.1).trans (by obtain ⟨_, q, _⟩ := HBB.out.cur; exact q); have g3 := hB2.hd n hnM.2; have g4 : w2.frozen? ⟨g, n * 36 + 33, none⟩ = false := (by obtain ⟨ah, bh, ql, _⟩ := hB2.link; exact ql.gz _); have HB2 := Lib.hid hB2; have HBW := Lib.hid hbb; clear hB2 hbb)
    | fail)
  go_ret
  have hG := HB2.out.setH n hnM.2 ((E n).held - 1)
  have hcast : (((E n).held - 1 : Nat) : Int) = ((E n).held : Int) - 1 := by omega
  rw [hcast] at hG
  have hK := (Kept.ofBelow HBW.out).or (Kept.set w2 g (n * 36 + 33) (.int .i64 (((E n).held : Int) - 1)))
  have hnx := HBB.out.ring
  refine ⟨rfl, HST.out.again H0.out hG (fun i h => h) ?_ hK (fun e => by
      rcases e with e | e
      · omega
      · exact HBB.out.ors.2.1.2 e.symm) HST.out.os ?_, hK.more (fun i hi e => by
    rcases e with e | e
    · omega
    · rw [e]; exact HBB.out.ors.2.1.1)⟩
  · have hd := (List.nodup_cons.1 hnx).2
    rw [List.nodup_append] at hd
    have hdj := HBB.out.dj
    rw [List.map_append, List.map_cons] at hdj
    rw [← hsum, List.map_append, List.map_cons, unpin_split hdj, List.map_append, List.map_cons, updE_same]
    congr 1
    · exact List.map_congr_left (fun m hm => (updE_other _ _ (fun e => hd.2.2 m hm n (by simp) e)).symm)
    · congr 1
      exact List.map_congr_left (fun m hm => (updE_other _ _ (fun e => (List.nodup_cons.1 hd.2.1).1 (by rw [← e]; exact hm))).symm)
  · rw [unpin_total]; exact HST.out.few
set_option maxRecDepth 100000 in
theorem unpin_free (sm : List UInt8) (w : World) (hs : sm.length = 32) (h : StoreB w O s M R L) (hin : sm ∈ sums L) (hz : heldOf sm L = 0) :
    Calls Try.prog 24 #[.pointer (some ⟨s, 0, none⟩), .agg (bv sm).toArray] w fun e w' => e = .returned (.int .i64 91) ∧ Below w.heap.size w w' := by
  have hb : Below w.heap.size w (w.alloc (.cells (bv sm).toArray 40)) := (Below.refl _ _).alloc (Nat.le_refl _) _
  obtain ⟨r, g, mb, FA, fc, E, D, xs, n, ys, fs, hB, rfl, hsum, h0⟩ := h.split hin
  have hnM := hB.mem (Or.inl (List.mem_append_right xs (List.mem_cons_self (a := n) (l := ys))))
  have hce : (∃ m ∈ xs ++ n :: ys, (E m).sum = sm ∧ (n : Int) = (m : Nat) ∧ (0 : Int) = 0) ∨ ((∀ m ∈ xs ++ n :: ys, (E m).sum ≠ sm) ∧ (n : Int) = 0 ∧ (0 : Int) = 90) := Or.inl ⟨n, List.mem_append_right _ (by simp), hsum, rfl, rfl⟩
  have hl0 := cell_lt h0
  have h0' : (w.alloc (.cells (bv sm).toArray 40)).cell? ⟨s, 0, none⟩ = some (.pointer (some ⟨r, 0, none⟩)) := by rw [World.cell?_alloc_lt _ _ _ hl0]; exact h0
  have hB' := hB.below hb
  have hrg := sum_there w sm 40
  have HF := Lib.hid (find_any r g mb fc FA E D _ fs sm (n : Int) 0 _ hs hB' h0' hce)
  have HI : (Try.prog.info? 40).map (·.size) = some (bv sm).length := by rw [info_sum, bv_len, hs]
  have HST := Lib.hid h
  have HBB := Lib.hid hB
  have H0 := Lib.hid h0
  obtain ⟨XS, hx⟩ : ∃ XS, bv sm = XS := ⟨_, rfl⟩
  rw [hx] at HF hb hrg HI ⊢
  have hrg := Lib.hid hrg
  have HI := Lib.hid HI
  obtain ⟨K, hK⟩ : ∃ K, XS.toArray = K := ⟨_, rfl⟩
  have HKK := Lib.hid hK
  have HBV := Lib.hid (show (bv sm).toArray = K by rw [hx, hK])
  rw [hK] at HF hb hrg ⊢
  have HB := Lib.hid hb
  clear hx hK hb h0 h0' hB hB' h hce
  have hdz := HBB.out.dj
  rw [List.map_append, List.map_cons] at hdz hz
  rw [← hsum, heldOf_split hdz] at hz
  have hi1 : (n : Int) < ((M + 1 : Nat) : Int) := by omega
  have HZ := Lib.hid hz
  clear hdz hz hin
  go_enter Try.func24, Try.ntmps24
  go_wp2_with (first
    | (refine wpList_load_mid rfl 40 (.tmp 3) rfl w.heap.size 0 rfl XS _ hrg.out Try.underlying40 rfl HI.out ?_; rw [HKK.out])
    | (go_at_call 43; refine HF.out.mono ?_; clear HF; rintro e w2 ⟨rfl, hb2⟩; have hbb := HB.out.trans (hb2.mono (by simp)); have hB2 := HBB.out.below hbb; have g0 := (hbb.cell (p := ⟨s, 0, none⟩) hl0).trans H0.out; have g2 := (hbb.cell (p := ⟨r, 0, none⟩) HBB.out.lt.1).trans (by obtain ⟨_, q, _⟩ := HBB.out.cur; exact q); have g3 := hB2.hd n hnM.2; rw [HZ.out] at g3; have HBW := Lib.hid hbb; clear hB2 hbb)
    | fail)
  go_ret
  exact ⟨rfl, HBW.out⟩
set_option maxRecDepth 100000 in
theorem get_hit (sm : List UInt8) (w : World) (hs : sm.length = 32) (h : StoreB w O s M R L) (hin : sm ∈ sums L) :
    Calls Try.prog 18 #[.pointer (some ⟨s, 0, none⟩), .agg (bv sm).toArray] w fun e w' => ∃ A k c, e = .returned (.tuple #[.slice A k c, .int .i64 0]) ∧ Ow w' w.heap.size 5 A k c (bv (dataOf sm L)) ∧ StoreB w' O s M R (SM.use sm L) ∧ Kept w w' O := by
  have hb : Below w.heap.size w (w.alloc (.cells (bv sm).toArray 40)) := (Below.refl _ _).alloc (Nat.le_refl _) _
  obtain ⟨r, g, mb, FA, fc, E, D, xs, n, ys, fs, hB, rfl, hsum, h0⟩ := h.split hin
  have hnM := hB.mem (Or.inl (List.mem_append_right xs (List.mem_cons_self (a := n) (l := ys))))
  have hce : (∃ m ∈ xs ++ n :: ys, (E m).sum = sm ∧ (n : Int) = (m : Nat) ∧ (0 : Int) = 0) ∨ ((∀ m ∈ xs ++ n :: ys, (E m).sum ≠ sm) ∧ (n : Int) = 0 ∧ (0 : Int) = 90) := Or.inl ⟨n, List.mem_append_right _ (by simp), hsum, rfl, rfl⟩
  have hl0 := cell_lt h0
  have h0' : (w.alloc (.cells (bv sm).toArray 40)).cell? ⟨s, 0, none⟩ = some (.pointer (some ⟨r, 0, none⟩)) := by rw [World.cell?_alloc_lt _ _ _ hl0]; exact h0
  have hB' := hB.below hb
  have hrg := sum_there w sm 40
  have HF := Lib.hid (find_any r g mb fc FA E D _ fs sm (n : Int) 0 _ hs hB' h0' hce)
  have HI : (Try.prog.info? 40).map (·.size) = some (bv sm).length := by rw [info_sum, bv_len, hs]
  have HST := Lib.hid h
  have HBB := Lib.hid hB
  have H0 := Lib.hid h0
  obtain ⟨XS, hx⟩ : ∃ XS, bv sm = XS := ⟨_, rfl⟩
  rw [hx] at HF hb hrg HI ⊢
  have hrg := Lib.hid hrg
  have HI := Lib.hid HI
  obtain ⟨K, hK⟩ : ∃ K, XS.toArray = K := ⟨_, rfl⟩
  have HKK := Lib.hid hK
  have HBV := Lib.hid (show (bv sm).toArray = K by rw [hx, hK])
  rw [hK] at HF hb hrg ⊢
  have HB := Lib.hid hb
  clear hx hK hb h0 h0' hB hB' h hce
  have hi1 : (n : Int) < ((M + 1 : Nat) : Int) := by omega
  clear hin
  go_enter Try.func18, Try.ntmps18
  go_wp2_with (first
    | (refine wpList_load_mid rfl 40 (.tmp 3) rfl w.heap.size 0 rfl XS _ hrg.out Try.underlying40 rfl HI.out ?_; rw [HKK.out])
    | (go_at_call 43; refine HF.out.mono ?_; clear HF; rintro e w2 ⟨rfl, hb2⟩; have hbb := HB.out.trans (hb2.mono (by simp)); have hB2 := HBB.out.below hbb; have g0 := (hbb.cell (p := ⟨s, 0, none⟩) hl0).trans H0.out; have HU := Lib.hid (rowuse_any n xs ys w2 hB2); have HBW := Lib.hid hbb; clear hB2 hbb)
    | (go_at_call 44; refine HU.out.mono ?_; clear HU; rintro e w3 ⟨rfl, hB3, hK3⟩; have k3 := ((Kept.ofBelow HBW.out).or hK3); have f0 := (k3.cell (a := ⟨s, 0, none⟩) hl0 (fun e => e.elim (fun e => Nat.not_lt.2 e hl0) (fun e => e.2 rfl))).trans H0.out; have f1 := (by obtain ⟨_, q, _⟩ := hB3.cur; exact q : w3.cell? ⟨r, 0, none⟩ = some (.slice (some ⟨g, 0, none⟩) (M + 1) (M + 1))); have f2 := hB3.dc n hnM.2; have HCL := Lib.hid (bclone_any (D n).a (D n).n (D n).c w3.heap.size (E n).data w3 (hB3.dr n hnM.2) (Nat.le_refl _) (by have h8 := hB3.dm n hnM.2; have h9 := (hB3.dr n hnM.2).len; rw [bv_len] at h9; omega)); have HB3 := Lib.hid hB3; have HK3 := Lib.hid k3; clear hB3 k3 hK3)
    | (go_at_call 45; refine HCL.out.mono ?_; clear HCL; rintro e w4 ⟨A4, N4, c4, rfl, ho4, hb4⟩)
    | fail)
  go_ret2
  have hdj := HBB.out.dj
  rw [List.map_append, List.map_cons] at hdj
  have hK4 := HK3.out.or (Kept.ofBelow hb4)
  have hsz := HK3.out.size
  have hp : (xs ++ ys ++ [n]).Perm (xs ++ n :: ys) := by
    rw [List.append_assoc]
    exact List.Perm.append_left xs List.perm_append_comm
  refine ⟨A4, N4, c4, rfl, ?_, HST.out.again H0.out (HB3.out.below hb4) (fun i h => h) ?_ hK4 (fun e => by
    rcases e with (e | e) | e
    · omega
    · exact e.2 rfl
    · omega) HST.out.os ?_, hK4.more (fun i hi e => by
    rcases e with (e | e) | e
    · omega
    · exact e.1
    · omega)⟩
  · rw [← hsum, List.map_append, List.map_cons, dataOf_split hdj]
    exact ho4.base hsz
  · rw [← hsum, List.map_append, List.map_cons, use_split hdj, List.map_append, List.map_append, List.map_singleton]
  · rw [← hsum, List.map_append, List.map_cons, use_split hdj]
    have h1 := total_perm (hp.map E)
    rw [List.map_append, List.map_append, List.map_singleton] at h1
    rw [h1]; exact HST.out.few
set_option maxRecDepth 100000 in
theorem evict_hit (sm : List UInt8) (w : World) (hs : sm.length = 32) (h : StoreB w O s M R L) (hin : sm ∈ sums L) :
    Calls Try.prog 26 #[.pointer (some ⟨s, 0, none⟩), .agg (bv sm).toArray] w fun e w' => e = .returned (.int .i64 0) ∧ StoreB w' (fun i => O i ∨ w.heap.size ≤ i) s M R (SM.evict sm L) ∧ Kept w w' O := by
  have hb : Below w.heap.size w (w.alloc (.cells (bv sm).toArray 40)) := (Below.refl _ _).alloc (Nat.le_refl _) _
  obtain ⟨r, g, mb, FA, fc, E, D, xs, n, ys, fs, hB, rfl, hsum, h0⟩ := h.split hin
  have hnM := hB.mem (Or.inl (List.mem_append_right xs (List.mem_cons_self (a := n) (l := ys))))
  have hce : (∃ m ∈ xs ++ n :: ys, (E m).sum = sm ∧ (n : Int) = (m : Nat) ∧ (0 : Int) = 0) ∨ ((∀ m ∈ xs ++ n :: ys, (E m).sum ≠ sm) ∧ (n : Int) = 0 ∧ (0 : Int) = 90) := Or.inl ⟨n, List.mem_append_right _ (by simp), hsum, rfl, rfl⟩
  have hl0 := cell_lt h0
  have h0' : (w.alloc (.cells (bv sm).toArray 40)).cell? ⟨s, 0, none⟩ = some (.pointer (some ⟨r, 0, none⟩)) := by rw [World.cell?_alloc_lt _ _ _ hl0]; exact h0
  have hB' := hB.below hb
  have hrg := sum_there w sm 40
  have HF := Lib.hid (find_any r g mb fc FA E D _ fs sm (n : Int) 0 _ hs hB' h0' hce)
  have HI : (Try.prog.info? 40).map (·.size) = some (bv sm).length := by rw [info_sum, bv_len, hs]
  have HST := Lib.hid h
  have HBB := Lib.hid hB
  have H0 := Lib.hid h0
  obtain ⟨XS, hx⟩ : ∃ XS, bv sm = XS := ⟨_, rfl⟩
  rw [hx] at HF hb hrg HI ⊢
  have hrg := Lib.hid hrg
  have HI := Lib.hid HI
  obtain ⟨K, hK⟩ : ∃ K, XS.toArray = K := ⟨_, rfl⟩
  have HKK := Lib.hid hK
  have HBV := Lib.hid (show (bv sm).toArray = K by rw [hx, hK])
  rw [hK] at HF hb hrg ⊢
  have HB := Lib.hid hb
  clear hx hK hb h0 h0' hB hB' h hce
  have hi1 : (n : Int) < ((M + 1 : Nat) : Int) := by omega
  have hT8 : total ((xs ++ n :: ys).map E) ≤ 8192 := Nat.le_trans HST.out.few HST.out.rle.2
  clear hin
  go_enter Try.func26, Try.ntmps26
  go_wp2_with (first
    | (refine wpList_load_mid rfl 40 (.tmp 3) rfl w.heap.size 0 rfl XS _ hrg.out Try.underlying40 rfl HI.out ?_; rw [HKK.out])
    | (go_at_call 43; refine HF.out.mono ?_; clear HF; rintro e w2 ⟨rfl, hb2⟩; have hbb := HB.out.trans (hb2.mono (by simp)); have hB2 := HBB.out.below hbb; have g0 := (hbb.cell (p := ⟨s, 0, none⟩) hl0).trans H0.out; have HU := Lib.hid (remove_any n xs ys w2 hB2 hT8); have HBW := Lib.hid hbb; clear hB2 hbb)
    | (go_at_call 48; refine HU.out.mono ?_; clear HU; rintro e w3 ⟨rfl, FA3, fc3, hB3, hK3⟩)
    | fail)
  go_ret
  have hdj := HBB.out.dj
  rw [List.map_append, List.map_cons] at hdj
  have hK4 := (Kept.ofBelow HBW.out).or hK3
  have hsz := HBW.out.size
  have hnx := (List.nodup_cons.1 HBB.out.ring).2
  rw [List.nodup_append] at hnx
  have hmap : (xs ++ ys).map (updE E n zeroE) = (xs ++ ys).map E := List.map_congr_left (fun m hm => updE_other _ _ (fun e => by
    rcases List.mem_append.1 hm with h1 | h1
    · exact hnx.2.2 m h1 n (by simp) e
    · exact (List.nodup_cons.1 hnx.2.1).1 (by rw [← e]; exact h1)))
  have hev : SM.evict sm ((xs ++ n :: ys).map E) = (xs ++ ys).map E := by rw [← hsum, List.map_append, List.map_cons, evict_split hdj, List.map_append]
  refine ⟨rfl, HST.out.again H0.out hB3 (fun i h => ?_) ?_ hK4 (fun e => by
    rcases e with e | e
    · omega
    · exact e.2 rfl) (Or.inl HST.out.os) ?_, hK4.more (fun i hi e => by
    rcases e with e | e
    · omega
    · exact e.1)⟩
  · rcases h with h | h
    · exact ⟨Or.inl h.1, h.2⟩
    · exact ⟨Or.inr (by omega), by omega⟩
  · rw [hev, hmap]
  · rw [hev]
    have h1 := HST.out.few
    rw [List.map_append, List.map_cons, total_append, total_cons] at h1
    rw [List.map_append, total_append]; omega
end Go.Proofs.Ytnmifaohmafobaa.st
