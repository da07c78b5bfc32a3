/- A store that no call made. -/
import Derived.Test.YtnmifaohmafobaaStU
namespace Go.Proofs.Ytnmifaohmafobaa.st
open Go.RowKit Go.Shelf Mem SM
set_option linter.unusedVariables false
attribute [local go_sem] Oper.semAt_some
variable {w w' : World} {O : Nat → Prop} {s M R : Nat} {L : List Ent}
theorem NoStore.below {v : Value} (h : NoStore w v) (hb : Below w.heap.size w w') : NoStore w' v := by
  rcases h with rfl | ⟨c, rfl, h⟩
  · exact Or.inl rfl
  · exact Or.inr ⟨c, rfl, (hb.cell (p := ⟨c, 0, none⟩) (World.block_lt_of_cell? w _ h)).trans h⟩
theorem NoStore.ptr {v : Value} (h : NoStore w v) : ∃ a, v = .pointer a := by
  rcases h with rfl | ⟨c, rfl, _⟩
  · exact ⟨_, rfl⟩
  · exact ⟨_, rfl⟩
theorem get_no (v : Value) (sm : List UInt8) (w : World) (hs : sm.length = 32) (h : NoStore w v) :
    Calls Try.prog 18 #[v, .agg (bv sm).toArray] w fun e w' => e = .returned (.tuple #[.slice none 0 0, .int .i64 6]) ∧ Below w.heap.size w w' := by
  have hb : Below w.heap.size w (w.alloc (.cells (bv sm).toArray 40)) := (Below.refl _ _).alloc (Nat.le_refl _) _
  have hrg := sum_there w sm 40
  have HF := Lib.hid (find_no v sm _ (h.below hb))
  have HI : (Try.prog.info? 40).map (·.size) = some (bv sm).length := by rw [info_sum, bv_len, hs]
  obtain ⟨pa, rfl⟩ := h.ptr
  obtain ⟨XS, hx⟩ : ∃ XS, bv sm = XS := ⟨_, rfl⟩
  rw [hx] at HF hb hrg HI ⊢
  have hrg := Lib.hid hrg
  have HI := Lib.hid HI
  obtain ⟨K, hK⟩ : ∃ K, XS.toArray = K := ⟨_, rfl⟩
  have HKK := Lib.hid hK
  rw [hK] at HF hb hrg ⊢
  have HB := Lib.hid hb
  clear hx hK hb h
  go_enter Try.func18, Try.ntmps18
  go_wp2_with (first
    | (refine wpList_load_mid rfl 40 (.tmp 3) rfl w.heap.size 0 rfl XS _ hrg.out Try.underlying40 rfl HI.out ?_; rw [HKK.out])
    | (go_at_call 43; refine HF.out.mono ?_; clear HF; rintro e w2 ⟨rfl, hb2⟩)
    | fail)
  go_ret2
  exact ⟨rfl, HB.out.trans (hb2.mono (by simp))⟩
theorem put_no (v : Value) (sm : List UInt8) (A : Option Addr) (k c : Nat) (w : World) (hs : sm.length = 32) (h : NoStore w v) :
    Calls Try.prog 29 #[v, .agg (bv sm).toArray, .slice A k c] w fun e w' => e = .returned (.int .i64 6) ∧ Below w.heap.size w w' := by
  have hb : Below w.heap.size w (w.alloc (.cells (bv sm).toArray 40)) := (Below.refl _ _).alloc (Nat.le_refl _) _
  have hrg := sum_there w sm 40
  have HF := Lib.hid (find_no v sm _ (h.below hb))
  have HI : (Try.prog.info? 40).map (·.size) = some (bv sm).length := by rw [info_sum, bv_len, hs]
  obtain ⟨pa, rfl⟩ := h.ptr
  obtain ⟨XS, hx⟩ : ∃ XS, bv sm = XS := ⟨_, rfl⟩
  rw [hx] at HF hb hrg HI ⊢
  have hrg := Lib.hid hrg
  have HI := Lib.hid HI
  obtain ⟨K, hK⟩ : ∃ K, XS.toArray = K := ⟨_, rfl⟩
  have HKK := Lib.hid hK
  rw [hK] at HF hb hrg ⊢
  have HB := Lib.hid hb
  clear hx hK hb h
  go_enter Try.func29, Try.ntmps29
  go_wp2_with (first
    | (refine wpList_load_mid rfl 40 (.tmp 4) rfl w.heap.size 0 rfl XS _ hrg.out Try.underlying40 rfl HI.out ?_; rw [HKK.out])
    | (go_at_call 43; refine HF.out.mono ?_; clear HF; rintro e w2 ⟨rfl, hb2⟩)
    | fail)
  go_ret
  exact ⟨rfl, HB.out.trans (hb2.mono (by simp))⟩
theorem pin_no (v : Value) (sm : List UInt8) (w : World) (hs : sm.length = 32) (h : NoStore w v) :
    Calls Try.prog 22 #[v, .agg (bv sm).toArray] w fun e w' => e = .returned (.int .i64 6) ∧ Below w.heap.size w w' := by
  have hb : Below w.heap.size w (w.alloc (.cells (bv sm).toArray 40)) := (Below.refl _ _).alloc (Nat.le_refl _) _
  have hrg := sum_there w sm 40
  have HF := Lib.hid (find_no v sm _ (h.below hb))
  have HI : (Try.prog.info? 40).map (·.size) = some (bv sm).length := by rw [info_sum, bv_len, hs]
  obtain ⟨pa, rfl⟩ := h.ptr
  obtain ⟨XS, hx⟩ : ∃ XS, bv sm = XS := ⟨_, rfl⟩
  rw [hx] at HF hb hrg HI ⊢
  have hrg := Lib.hid hrg
  have HI := Lib.hid HI
  obtain ⟨K, hK⟩ : ∃ K, XS.toArray = K := ⟨_, rfl⟩
  have HKK := Lib.hid hK
  rw [hK] at HF hb hrg ⊢
  have HB := Lib.hid hb
  clear hx hK hb h
  go_enter Try.func22, Try.ntmps22
  go_wp2_with (first
    | (refine wpList_load_mid rfl 40 (.tmp 3) rfl w.heap.size 0 rfl XS _ hrg.out Try.underlying40 rfl HI.out ?_; rw [HKK.out])
    | (go_at_call 43; refine HF.out.mono ?_; clear HF; rintro e w2 ⟨rfl, hb2⟩)
    | fail)
  go_ret
  exact ⟨rfl, HB.out.trans (hb2.mono (by simp))⟩
theorem unpin_no (v : Value) (sm : List UInt8) (w : World) (hs : sm.length = 32) (h : NoStore w v) :
    Calls Try.prog 24 #[v, .agg (bv sm).toArray] w fun e w' => e = .returned (.int .i64 6) ∧ Below w.heap.size w w' := by
  have hb : Below w.heap.size w (w.alloc (.cells (bv sm).toArray 40)) := (Below.refl _ _).alloc (Nat.le_refl _) _
  have hrg := sum_there w sm 40
  have HF := Lib.hid (find_no v sm _ (h.below hb))
  have HI : (Try.prog.info? 40).map (·.size) = some (bv sm).length := by rw [info_sum, bv_len, hs]
  obtain ⟨pa, rfl⟩ := h.ptr
  obtain ⟨XS, hx⟩ : ∃ XS, bv sm = XS := ⟨_, rfl⟩
  rw [hx] at HF hb hrg HI ⊢
  have hrg := Lib.hid hrg
  have HI := Lib.hid HI
  obtain ⟨K, hK⟩ : ∃ K, XS.toArray = K := ⟨_, rfl⟩
  have HKK := Lib.hid hK
  rw [hK] at HF hb hrg ⊢
  have HB := Lib.hid hb
  clear hx hK hb h
  go_enter Try.func24, Try.ntmps24
  go_wp2_with (first
    | (refine wpList_load_mid rfl 40 (.tmp 3) rfl w.heap.size 0 rfl XS _ hrg.out Try.underlying40 rfl HI.out ?_; rw [HKK.out])
    | (go_at_call 43; refine HF.out.mono ?_; clear HF; rintro e w2 ⟨rfl, hb2⟩)
    | fail)
  go_ret
  exact ⟨rfl, HB.out.trans (hb2.mono (by simp))⟩
theorem evict_no (v : Value) (sm : List UInt8) (w : World) (hs : sm.length = 32) (h : NoStore w v) :
    Calls Try.prog 26 #[v, .agg (bv sm).toArray] w fun e w' => e = .returned (.int .i64 6) ∧ Below w.heap.size w w' := by
  have hb : Below w.heap.size w (w.alloc (.cells (bv sm).toArray 40)) := (Below.refl _ _).alloc (Nat.le_refl _) _
  have hrg := sum_there w sm 40
  have HF := Lib.hid (find_no v sm _ (h.below hb))
  have HI : (Try.prog.info? 40).map (·.size) = some (bv sm).length := by rw [info_sum, bv_len, hs]
  obtain ⟨pa, rfl⟩ := h.ptr
  obtain ⟨XS, hx⟩ : ∃ XS, bv sm = XS := ⟨_, rfl⟩
  rw [hx] at HF hb hrg HI ⊢
  have hrg := Lib.hid hrg
  have HI := Lib.hid HI
  obtain ⟨K, hK⟩ : ∃ K, XS.toArray = K := ⟨_, rfl⟩
  have HKK := Lib.hid hK
  rw [hK] at HF hb hrg ⊢
  have HB := Lib.hid hb
  clear hx hK hb h
  go_enter Try.func26, Try.ntmps26
  go_wp2_with (first
    | (refine wpList_load_mid rfl 40 (.tmp 3) rfl w.heap.size 0 rfl XS _ hrg.out Try.underlying40 rfl HI.out ?_; rw [HKK.out])
    | (go_at_call 43; refine HF.out.mono ?_; clear HF; rintro e w2 ⟨rfl, hb2⟩)
    | fail)
  go_ret
  exact ⟨rfl, HB.out.trans (hb2.mono (by simp))⟩
theorem has_no (v : Value) (sm : List UInt8) (w : World) (hs : sm.length = 32) (h : NoStore w v) :
    Calls Try.prog 37 #[v, .agg (bv sm).toArray] w fun e w' => e = .returned (.bool false) ∧ Below w.heap.size w w' := by
  have hb : Below w.heap.size w (w.alloc (.cells (bv sm).toArray 40)) := (Below.refl _ _).alloc (Nat.le_refl _) _
  have hrg := sum_there w sm 40
  have HF := Lib.hid (find_no v sm _ (h.below hb))
  have HI : (Try.prog.info? 40).map (·.size) = some (bv sm).length := by rw [info_sum, bv_len, hs]
  obtain ⟨pa, rfl⟩ := h.ptr
  obtain ⟨XS, hx⟩ : ∃ XS, bv sm = XS := ⟨_, rfl⟩
  rw [hx] at HF hb hrg HI ⊢
  have hrg := Lib.hid hrg
  have HI := Lib.hid HI
  obtain ⟨K, hK⟩ : ∃ K, XS.toArray = K := ⟨_, rfl⟩
  have HKK := Lib.hid hK
  rw [hK] at HF hb hrg ⊢
  have HB := Lib.hid hb
  clear hx hK hb h
  go_enter Try.func37, Try.ntmps37
  go_wp2_with (first
    | (refine wpList_load_mid rfl 40 (.tmp 3) rfl w.heap.size 0 rfl XS _ hrg.out Try.underlying40 rfl HI.out ?_; rw [HKK.out])
    | (go_at_call 43; refine HF.out.mono ?_; clear HF; rintro e w2 ⟨rfl, hb2⟩)
    | fail)
  go_ret
  exact ⟨rfl, HB.out.trans (hb2.mono (by simp))⟩
theorem len_no (v : Value) (w : World) (h : NoStore w v) :
    Calls Try.prog 31 #[v] w fun e w' => e = .returned (.int .i64 0) ∧ w = w' := by
  have H := Lib.hid (made_no v _ h)
  obtain ⟨pa, rfl⟩ := h.ptr
  clear h
  go_enter Try.func31, Try.ntmps31
  go_wp2_with (go_at_call 41; refine H.out.mono ?_; rintro e w1 ⟨rfl, rfl⟩)
  go_ret
  exact ⟨rfl, rfl⟩
theorem bytes_no (v : Value) (w : World) (h : NoStore w v) :
    Calls Try.prog 32 #[v] w fun e w' => e = .returned (.int .i64 0) ∧ w = w' := by
  have H := Lib.hid (made_no v _ h)
  obtain ⟨pa, rfl⟩ := h.ptr
  clear h
  go_enter Try.func32, Try.ntmps32
  go_wp2_with (go_at_call 41; refine H.out.mono ?_; rintro e w1 ⟨rfl, rfl⟩)
  go_ret
  exact ⟨rfl, rfl⟩
theorem wipe_no (v : Value) (w : World) (h : NoStore w v) :
    Calls Try.prog 40 #[v] w fun e w' => e = .returned (.tuple #[]) ∧ w = w' := by
  have H := Lib.hid (made_no v _ h)
  obtain ⟨pa, rfl⟩ := h.ptr
  clear h
  go_enter Try.func40, Try.ntmps40
  go_wp2_with (go_at_call 41; refine H.out.mono ?_; rintro e w1 ⟨rfl, rfl⟩)
  exact ⟨rfl, _, results_none rfl _ _ _, rfl, rfl⟩
end Go.Proofs.Ytnmifaohmafobaa.st
