/- Pending, Flush, All. -/
import Derived.Test.YtjmgokjflfhohaaChB
namespace Go.Proofs.Ytjmgokjflfhohaa.ch
open Go.RowKit Mem rb
set_option linter.unusedVariables false
variable {w w' : World} {c r b p : Nat} {pend hist : List UInt8}
theorem pending_any (A : Option Addr) (n k base : Nat) (w : World) (h : CutB w c r b p A n k pend hist base) :
    Calls Try.prog 23 #[.pointer (some ⟨c, 0, none⟩)] w fun e w' => e = .returned (.int .i64 (n : Nat)) ∧ w = w' := by
  have h0 := h.c0
  have h1 := h.c1
  clear h
  go_enter Try.func23, Try.ntmps23
  go_wp2_with (go_at_call 30; refine (made_yes _ _ h0).mono ?_; rintro e w' ⟨rfl, rfl⟩)
  go_ret
  exact ⟨rfl, rfl⟩
theorem flush_any (A : Option Addr) (n k base : Nat) (w : World) (h : CutB w c r b p A n k pend hist base) :
    Calls Try.prog 22 #[.pointer (some ⟨c, 0, none⟩)] w fun e w' => e = .returned (.slice A n k) ∧ w' = w.setCell ⟨c, 1, none⟩ (.slice none 0 0) := by
  have h0 := h.c0
  have H := Lib.hid h
  clear h
  go_enter Try.func22, Try.ntmps22
  go_wp2_with (first
    | (go_at_call 30; refine (made_yes _ _ h0).mono ?_; rintro e w' ⟨rfl, rfl⟩)
    | (go_at_call 31; refine (cut_any A n k base _ H.out).mono ?_; rintro e w' ⟨rfl, rfl⟩))
  go_ret
  exact ⟨rfl, rfl⟩
theorem write0 (v : Value) (B : Option Addr) (n k : Nat) (w : World) (h : NoCut w v) :
    Calls Try.prog 24 #[v, .slice B n k] w fun e w' => e = .returned (.slice none 0 0) ∧ w = w' := by
  have H := Lib.hid (made_no v w h)
  clear h
  go_enter Try.func24, Try.ntmps24
  go_wp2_with (go_at_call 30; refine H.out.mono ?_; rintro e w' ⟨rfl, rfl⟩)
  go_ret
  exact ⟨rfl, rfl⟩
theorem pending0 (v : Value) (w : World) (h : NoCut w v) :
    Calls Try.prog 23 #[v] w fun e w' => e = .returned (.int .i64 0) ∧ w = w' := by
  have H := Lib.hid (made_no v w h)
  clear h
  go_enter Try.func23, Try.ntmps23
  go_wp2_with (go_at_call 30; refine H.out.mono ?_; rintro e w' ⟨rfl, rfl⟩)
  go_ret
  exact ⟨rfl, rfl⟩
theorem flush0 (v : Value) (w : World) (h : NoCut w v) :
    Calls Try.prog 22 #[v] w fun e w' => e = .returned (.slice none 0 0) ∧ w = w' := by
  have H := Lib.hid (made_no v w h)
  clear h
  go_enter Try.func22, Try.ntmps22
  go_wp2_with (go_at_call 30; refine H.out.mono ?_; rintro e w' ⟨rfl, rfl⟩)
  go_ret
  exact ⟨rfl, rfl⟩
theorem all0 (B : Option Addr) (n k : Nat) (w : World) :
    Calls Try.prog 15 #[.pointer none, .slice B n k] w fun e w' => e = .returned (.slice none 0 0) ∧ w = w' := by
  go_enter Try.func15, Try.ntmps15
  go_wp2_with (first
    | (go_at_call 21; refine (new0 _ _ (Or.inl rfl)).mono ?_; rintro e w' ⟨rfl, rfl⟩)
    | (go_at_call 24; refine (write0 _ _ _ _ _ (Or.inl rfl)).mono ?_; rintro e w' ⟨rfl, rfl⟩)
    | (go_at_call 23; refine (pending0 _ _ (Or.inl rfl)).mono ?_; rintro e w' ⟨rfl, rfl⟩))
  go_ret
  exact ⟨rfl, rfl⟩
/-- what All leaves -/
structure AllB (b p : Nat) (l : List UInt8) (w w' : World) (A : Option Addr) (n k : Nat) (vs : List Value) : Prop where
  row : Ow w' w.heap.size 23 A n k vs
  rows : Rows w' w.heap.size vs (allF (rule p) l)
  tab : TabB w' b p 1 0 (AV p) (FV p)
  kept : Kept w w' (fun i => i = b)
  off : Off (fun i => i = b ∨ blk A = some i) vs
def AllPost (b p : Nat) (l : List UInt8) (w : World) (e : Ending) (w' : World) : Prop := ∃ A n k vs, e = .returned (.slice A n k) ∧ AllB b p l w w' A n k vs
theorem all_any (B : Option Addr) (n k D : Nat) (l : List UInt8) (w : World) (hp : p.log2 = 31) (ht : TabOk w b p) (hr : ∀ w', Kept w w' (fun i => i = b) → Rd w' D B n (bv l)) (hn : n ≤ 1048576) :
    Calls Try.prog 15 #[.pointer (some ⟨b, 0, none⟩), .slice B n k] w (AllPost b p l w) := by
  have hbl : b < w.heap.size := by rcases ht with h | h <;> exact h.lt
  have hln : l.length = n := by rw [← bv_len, (hr w (Kept.refl _ _)).len]
  have HR := Lib.hid hr
  have HLN := Lib.hid hln
  clear hr hln
  go_enter Try.func15, Try.ntmps15
  go_wp2_with fail
  refine (new_any b p w hp ht).mono ?_
  rintro e w1 ⟨c, r, rfl, hcw, hrw, hC, hK1⟩
  have hs1 := hK1.size
  have HC := Lib.hid hC
  clear hC
  go_wp2_with fail
  refine (write_any (hist := []) none 0 0 w.heap.size B n k D l w1 hp HC.out (by decide) hs1 (fun w' hk => HR.out w' (hK1.trans hk (fun i hi e => by
    rcases e with e | e | e
    · omega
    · omega
    · cases e))) hn).mono ?_
  rintro e w2 ⟨A, nn, kk, vs, A', m, k', rfl, hI⟩
  obtain ⟨h', hc2⟩ := hI.cut
  have hml : m = (cutF (rule p) [] l).2.length := by have := hc2.row.len; rw [bv_len] at this; exact this.symm
  have HK : Kept w w2 (fun i => i = b) := hK1.trans hI.kept (fun i hi e => by
    rcases e with e | e | e
    · omega
    · omega
    · cases e)
  have HT := hc2.tab
  have HP : Hid (Calls Try.prog 23 #[.pointer (some ⟨c, 0, none⟩)] w2 fun e w' => e = .returned (.int .i64 (m : Nat)) ∧ w2 = w') := Lib.hid (pending_any A' m k' _ w2 hc2)
  have HF : Hid (Calls Try.prog 22 #[.pointer (some ⟨c, 0, none⟩)] w2 fun e w' => e = .returned (.slice A' m k') ∧ w' = w2.setCell ⟨c, 1, none⟩ (.slice none 0 0)) := Lib.hid (flush_any A' m k' _ w2 hc2)
  by_cases z : m = 0
  · subst z
    have hnil : (cutF (rule p) [] l).2 = [] := List.eq_nil_of_length_eq_zero hml.symm
    have hall : allF (rule p) l = (cutF (rule p) [] l).1 := by unfold allF; rw [if_pos hnil]
    have HA : AllB b p l w w2 A nn kk vs := ⟨hI.row.base hs1, by rw [hall]; exact hI.rows, HT, HK, fun B n k hm i hi e => hI.off B n k hm i hi (by
      rcases e with e | e
      · exact Or.inr (Or.inr (Or.inl e))
      · exact Or.inr (Or.inr (Or.inr (Or.inr e))))⟩
    have HAH := Lib.hid HA
    clear HA HK HT hI hc2 hml hall hnil HF HC hK1
    go_wp2_with (go_at_call 23; refine HP.out.mono ?_; rintro e w' ⟨rfl, rfl⟩)
    go_ret
    exact ⟨A, nn, kk, vs, rfl, HAH.out⟩
  · have hmpos : (0 : Int) < (m : Int) := by omega
    have hne : (cutF (rule p) [] l).2 ≠ [] := by intro e; rw [e] at hml; exact z hml
    have hall : allF (rule p) l = (cutF (rule p) [] l).1 ++ [(cutF (rule p) [] l).2] := by unfold allF; rw [if_neg hne]
    have hrow6 : Ow (w2.setCell ⟨c, 1, none⟩ (.slice none 0 0)) w1.heap.size 23 A nn kk vs := (Kept.set w2 c 1 _).ow hI.row (fun i hi e => (hI.oa i hi).1 e)
    have hs6 : w1.heap.size ≤ (w2.setCell ⟨c, 1, none⟩ (.slice none 0 0)).heap.size := by rw [World.size_setCell]; exact hI.kept.size
    have hcnt := cut_count (rule p) l []
    have hvl := hI.row.len
    have hvr := hI.rows.len
    have hnn : nn ≤ 1048576 := by have := HLN.out; omega
    have HI := Lib.hid (And.intro hI (And.intro HK (And.intro HT (And.intro hall hc2))))
    clear hcnt hvl hvr hI HK HT hall hc2 hml hne HC hK1
    go_wp2_with (go_at_call 23; refine HP.out.mono ?_; rintro e w' ⟨rfl, rfl⟩)
    refine HF.out.mono ?_
    rintro e w6 ⟨rfl, hw6⟩
    rw [← hw6] at hrow6 hs6
    have HW6 := Lib.hid hw6
    clear hw6
    go_wp2_with (at_builtin; refine wp_app sty rfl (.tmp 15) (.tmp 18) rfl rfl rfl (hrow6.alloc _) (Rd.one _ (.slice A' m k') _) (one1 (x := .slice A' m k') rfl) (by omega) (by omega) (by simp; omega) ?_; intro A8 n8 w8k w8 ho8 hN8 hb8 hg8; have hK8 := grow_kept hg8; have hA8 : blk A8 = blk A ∨ ∃ i, w6.heap.size ≤ i ∧ blk A8 = some i := (hg8.2.imp id (fun ⟨i, hi, e⟩ => ⟨i, (by simp at hi; omega), e⟩)))
    go_ret
    obtain ⟨hI, HK, HT, hall, hc⟩ := HI.out
    have K6 : Kept w2 w6 (fun i => i = c) := by rw [HW6.out]; exact Kept.set w2 c 1 _
    have hs26 := K6.size
    have hlt := hI.rows.lt
    have o6 : Off (fun i => i = c) vs := fun B n k hmem i hi hb => hI.off B n k hmem i hi (Or.inl hb)
    have o8 : Off (fun i => blk A = some i) vs := fun B n k hmem i hi hb => hI.off B n k hmem i hi (Or.inr (Or.inr (Or.inr (Or.inr hb))))
    have x8 := hK8.ow (K6.ow hc.row (fun i hi e => hc.rc (by rw [hi, e]))) (fun i hi e => (hI.oa i e).2.2.2 hi)
    have hA'l : ∀ i, blk A' = some i → i < w2.heap.size := fun i hi => (hc.row.blk_lt i hi).2
    have K8 : Kept w2 w8 (fun i => i = c ∨ blk A = some i) := (K6.more (fun i e => Or.inl e)).trans hK8 (fun i _ e => Or.inr e)
    refine ⟨A8, n8, w8k, _, rfl, ⟨ho8.base hs1, ?_, K8.tab HT (fun e => e.elim (fun e => hc.cb e.symm) (fun e => (hI.oa b e).2.2.1 rfl)), HK.trans K8 (fun i hi e => ?_), ?_⟩⟩
    · rw [hall]; exact ((hI.rows.kept K6 o6).kept hK8 o8).snoc x8
    · rcases e with e | e
      · omega
      · have := (hI.row.blk_lt i e).1; omega
    · intro B n2 k3 hmem i hi hb
      rcases List.mem_append.1 hmem with hmem | hmem
      · have hlt2 := hlt B n2 k3 hmem i hi
        rcases hb with e | e
        · exact hI.off B n2 k3 hmem i hi (Or.inr (Or.inr (Or.inl e)))
        · rcases hA8 with e2 | ⟨j, hj, e2⟩
          · exact hI.off B n2 k3 hmem i hi (Or.inr (Or.inr (Or.inr (Or.inr (by rw [← e2]; exact e)))))
          · rw [e2] at e; injection e with h1; omega
      · rw [List.mem_singleton] at hmem
        injection hmem with e1 e2 e3
        subst e1
        rcases hb with e | e
        · exact hc.rt (by rw [hi, e])
        · rcases hA8 with e2 | ⟨j, hj, e2⟩
          · exact (hI.oa i (by rw [← e2]; exact e)).2.2.2 hi
          · rw [e2] at e; injection e with h1; have := hA'l i hi; omega
end Go.Proofs.Ytjmgokjflfhohaa.ch
