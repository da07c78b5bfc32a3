/- A store: its calls on a state that is followed. -/
import Derived.Test.YtnmifaohmafobaaStS
import Derived.Lib.SlBytesConst
namespace Go.Proofs.Ytnmifaohmafobaa.st
open Go.RowKit Go.Shelf Mem SM
set_option linter.unusedVariables false
attribute [local go_sem] Oper.semAt_some
/-- a store of a call's own, and all that lay before as it was -/
def AtO (w0 w : World) (O : Nat → Prop) (s M R : Nat) (L : List Ent) : Prop :=
  StoreB w O s M R L ∧ (∀ i, O i → w0.heap.size ≤ i ∧ i < w.heap.size) ∧ Below w0.heap.size w0 w
variable {w0 w w' : World} {O : Nat → Prop} {s M R : Nat} {L : List Ent}
theorem AtO.below (h : AtO w0 w O s M R L) (hb : Below w.heap.size w w') : AtO w0 w' O s M R L :=
  ⟨h.1.below hb, fun i hi => ⟨(h.2.1 i hi).1, Nat.lt_of_lt_of_le (h.2.1 i hi).2 hb.size⟩, h.2.2.trans (hb.mono h.2.2.size)⟩
theorem AtO.kept (h : AtO w0 w O s M R L) (k : Kept w w' O) : Below w0.heap.size w0 w' :=
  h.2.2.trans (below_of_kept k h.2.2.size (fun i hi e => (h.2.1 i e).1))
theorem AtO.alloc (h : AtO w0 w O s M R L) (o : Obj) : AtO w0 (w.alloc o) O s M R L := h.below ((Below.refl _ _).alloc (Nat.le_refl _) _)
theorem AtO.drew (h : AtO w0 w O s M R L) : AtO w0 w.drew O s M R L := h.below (below_drew (Below.refl _ _))
theorem new_at (M R : Nat) (hM : 1 ≤ M ∧ M ≤ 64) (hR : 1 ≤ R ∧ R ≤ 8192) (h : Below w0.heap.size w0 w) :
    Calls Try.prog 13 #[.int .i64 (M : Nat), .int .i64 (R : Nat)] w fun e w' => ∃ s O, e = .returned (.tuple #[.pointer (some ⟨s, 0, none⟩), .int .i64 0]) ∧ AtO w0 w' O s M R [] := by
  refine (new_any M R w hM hR).mono ?_
  rintro e w' ⟨s, rfl, hs, hS, hb⟩
  exact ⟨s, _, rfl, hS.near, fun i hi => ⟨Nat.le_trans h.size hi.1, hi.2⟩, h.trans (hb.mono h.size)⟩
theorem put_at (sm data : List UInt8) (A : Option Addr) (k c B : Nat) (w : World) (hs : sm.length = 32) (h : AtO w0 w O s M R L) (hd : Rd w B A k (bv data)) (hdo : ∀ i, blk A = some i → i < B → ¬ O i) (hB : B ≤ w.heap.size) (hk : k ≤ 281474976710656) :
    Calls Try.prog 29 #[.pointer (some ⟨s, 0, none⟩), .agg (bv sm).toArray, .slice A k c] w fun e w' => ∃ O', e = .returned (.int .i64 (putE sm data M R L : Nat)) ∧ AtO w0 w' O' s M R (putL sm data M R L) ∧ Kept w w' O := by
  refine (put_any sm data A k c B w hs h.1 hd hdo hB hk).mono ?_
  rintro e w' ⟨rfl, hS, hK⟩
  refine ⟨_, rfl, ⟨hS.near, fun i hi => ⟨?_, hi.2⟩, h.kept hK⟩, hK⟩
  rcases hi.1 with h1 | h1
  · exact (h.2.1 i h1).1
  · exact Nat.le_trans h.2.2.size h1
theorem pin_at (sm : List UInt8) (w : World) (hs : sm.length = 32) (h : AtO w0 w O s M R L) (hin : sm ∈ sums L) (hh : ∀ e ∈ L, e.held < 4611686018427387904) :
    Calls Try.prog 22 #[.pointer (some ⟨s, 0, none⟩), .agg (bv sm).toArray] w fun e w' => e = .returned (.int .i64 0) ∧ AtO w0 w' O s M R (SM.pin sm L) ∧ Kept w w' O := by
  refine (pin_hit sm w hs h.1 hin hh).mono ?_
  rintro e w' ⟨rfl, hS, hK⟩
  exact ⟨rfl, ⟨hS, fun i hi => ⟨(h.2.1 i hi).1, Nat.lt_of_lt_of_le (h.2.1 i hi).2 hK.size⟩, h.kept hK⟩, hK⟩
theorem get_at (sm : List UInt8) (w : World) (hs : sm.length = 32) (h : AtO w0 w O s M R L) (hin : sm ∈ sums L) :
    Calls Try.prog 18 #[.pointer (some ⟨s, 0, none⟩), .agg (bv sm).toArray] w fun e w' => ∃ A k c, e = .returned (.tuple #[.slice A k c, .int .i64 0]) ∧ Ow w' w.heap.size 5 A k c (bv (dataOf sm L)) ∧ AtO w0 w' O s M R (SM.use sm L) ∧ Kept w w' O := by
  refine (get_hit sm w hs h.1 hin).mono ?_
  rintro e w' ⟨A, k, c, rfl, ho, hS, hK⟩
  exact ⟨A, k, c, rfl, ho, ⟨hS, fun i hi => ⟨(h.2.1 i hi).1, Nat.lt_of_lt_of_le (h.2.1 i hi).2 hK.size⟩, h.kept hK⟩, hK⟩
theorem svs_len (l : List (List UInt8)) (h : ∀ x ∈ l, x.length = 32) : (svs l).length = l.length * 32 := by
  unfold svs
  induction l with
  | nil => rfl
  | cons a l ih =>
    rw [List.map_cons, List.flatten_cons, List.length_append, ih (fun x hx => h x (by simp [hx])), bv_len, h a (by simp), List.length_cons]
    omega
theorem svs_at (l : List (List UInt8)) (h : ∀ x ∈ l, x.length = 32) (j i : Nat) (hj : j < l.length) (hi : i < 32) : (svs l)[j * 32 + i]? = (bv l[j])[i]? := by
  induction l generalizing j with
  | nil => simp at hj
  | cons a l ih =>
    have ha := h a (by simp)
    have e : svs (a :: l) = bv a ++ svs l := by simp [svs]
    rw [e]
    cases j with
    | zero =>
      rw [List.getElem?_append_left (by rw [bv_len, ha]; omega)]
      simp
    | succ j =>
      rw [List.getElem?_append_right (by rw [bv_len, ha]; omega), bv_len, ha, show (j + 1) * 32 + i - 32 = j * 32 + i by omega, ih (fun x hx => h x (by simp [hx])) j (by simpa using hj)]
      simp
theorem rds_of_row {B : Nat} {v : Value} {l : List (List UInt8)} (h : OwS w B v l) (hl : ∀ x ∈ l, x.length = 32) : RdS w v l := by
  unfold OwS at h
  rcases h.2 with ⟨rfl, h0⟩ | ⟨g, cap, cur, rfl, _, hb, _, _, hc, ht⟩
  · rw [List.length_eq_zero_iff.1 h0]
    exact RdS.nil _ _
  · refine ⟨_, _, rfl, hl, fun j hj => ⟨g, 0, rfl, (Array.getElem?_eq_some_iff.1 hb).1, fun i v hv => ?_⟩⟩
    have hi : i < 32 := by
      have := (List.getElem?_eq_some_iff.1 hv).1
      rw [bv_len, hl _ (List.getElem_mem hj)] at this
      exact this
    rw [← svs_at l hl j i hj hi, ← ht] at hv
    have hlt : j * 32 + i < l.length * 32 := by
      have : (j + 1) * 32 ≤ l.length * 32 := Nat.mul_le_mul_right 32 hj
      omega
    rw [List.getElem?_take_of_lt hlt] at hv
    rw [Nat.zero_add]
    exact cell_of_row _ _ _ cur _ (0, 0) hb |>.trans (by simpa using hv)
theorem list_at (w : World) (h : AtO w0 w O s M R L) (hl : ∀ e ∈ L, e.sum.length = 32) :
    Calls Try.prog 35 #[.pointer (some ⟨s, 0, none⟩)] w fun e w' => ∃ v, e = .returned v ∧ RdS w' v (sums L) ∧ Below w.heap.size w w' := by
  refine (list_any w h.1).mono ?_
  rintro e w' ⟨v, rfl, ho, hb⟩
  exact ⟨v, rfl, rds_of_row ho (fun x hx => by obtain ⟨e, he, rfl⟩ := List.mem_map.1 hx; exact hl e he), hb⟩
/-- one byte that a constant lays -/
def lit1 (w : World) (x : Int) : World := w.alloc (.cells #[.int .u8 x] 5 (1, 2))
theorem lit1_below (w : World) (x : Int) : Below w.heap.size w (lit1 w x) := (Below.refl _ _).alloc (Nat.le_refl _) _
theorem lit1_rd (w : World) (x : UInt8) : Rd (lit1 w (x.toNat : Nat)) (lit1 w (x.toNat : Nat)).heap.size (some ⟨w.heap.size, 0, none⟩) 1 (bv [x]) := by
  refine ⟨rfl, fun _ => ⟨_, 0, rfl, by simp [lit1], fun i hi => ?_⟩⟩
  have h : (lit1 w (x.toNat : Nat)).heap[w.heap.size]? = some (.cells #[.int .u8 (x.toNat : Nat)] 5 (1, 2)) := World.alloc_heap_new _ _
  have hi0 : i = 0 := by omega
  subst hi0
  unfold World.cell?
  rw [h]
  rfl
theorem put_lit (sm : List UInt8) (x : UInt8) (w : World) (hs : sm.length = 32) (h : AtO w0 w O s M R L) :
    Calls Try.prog 29 #[.pointer (some ⟨s, 0, none⟩), .agg (bv sm).toArray, .slice (some ⟨w.heap.size, 0, none⟩) 1 1] (lit1 w (x.toNat : Nat)) fun e w' => ∃ O', e = .returned (.int .i64 (putE sm [x] M R L : Nat)) ∧ AtO w0 w' O' s M R (putL sm [x] M R L) ∧ Kept w w' (fun i => O i ∨ w.heap.size ≤ i) := by
  refine (put_at sm [x] _ 1 1 _ _ hs (h.below (lit1_below w _)) (lit1_rd w x) (fun i e _ hO => ?_) (Nat.le_refl _) (by omega)).mono ?_
  · injection e with e
    subst e
    exact absurd (h.2.1 _ hO).2 (by simp)
  · rintro e w' ⟨O', rfl, h1, h2⟩
    exact ⟨O', rfl, h1, ((Kept.ofBelow (lit1_below w _)).more (fun i _ e => Or.inr e)).trans (h2.more (fun i _ e => Or.inl e)) (fun _ _ e => e)⟩
end Go.Proofs.Ytnmifaohmafobaa.st
