/- A store: a call as the law does it. -/
import Derived.Test.YtnmifaohmafobaaStW
namespace Go.Proofs.Ytnmifaohmafobaa.st
open Go.RowKit Go.Shelf Mem SM
set_option linter.unusedVariables false
attribute [local go_sem] Oper.semAt_some
variable {w0 w w' y : World} {O : Nat → Prop} {s M R : Nat} {L : List Ent}
/-- what a step leaves: the store's own is another, of blocks that were its own or are new -/
def Step (w0 w : World) (O : Nat → Prop) (s M R : Nat) (L' : List Ent) (w' : World) : Prop :=
  ∃ O', AtO w0 w' O' s M R L' ∧ Kept w w' (fun i => O i ∨ w.heap.size ≤ i) ∧ ∀ i, O' i → i < w.heap.size → O i
theorem Step.same (h : AtO w0 w O s M R L) (hb : Below w.heap.size w w') : Step w0 w O s M R L w' :=
  ⟨O, h.below hb, (Kept.ofBelow hb).more (fun i _ e => Or.inr e), fun i hi _ => hi⟩
theorem Step.after (hb : Below w.heap.size w y) (h : Step w0 y O s M R L w') : Step w0 w O s M R L w' := by
  obtain ⟨O', h1, h2, h3⟩ := h
  refine ⟨O', h1, ((Kept.ofBelow hb).more (fun i _ e => Or.inr e)).trans h2 (fun i _ e => ?_), fun i hi hl => h3 i hi (Nat.lt_of_lt_of_le hl hb.size)⟩
  rcases e with e | e
  · exact Or.inl e
  · exact Or.inr (Nat.le_trans hb.size e)
theorem Step.own (h : AtO w0 w' O s M R L) (k : Kept w w' O) : Step w0 w O s M R L w' := ⟨O, h, k.more (fun i _ e => Or.inl e), fun i hi _ => hi⟩
theorem Step.wide (h : AtO w0 w O s M R L) {L' : List Ent} (hS : StoreB w' (fun i => O i ∨ w.heap.size ≤ i) s M R L') (hK : Kept w w' O) : Step w0 w O s M R L' w' :=
  ⟨_, ⟨hS.near, fun i hi => ⟨by
    rcases hi.1 with h1 | h1
    · exact (h.2.1 i h1).1
    · exact Nat.le_trans h.2.2.size h1, hi.2⟩, h.kept hK⟩, hK.more (fun i _ e => Or.inl e), fun i hi hl => by
    rcases hi.1 with h1 | h1
    · exact h1
    · omega⟩
theorem err_nat {a b : Nat} (h : a = b) : Ending.returned (.int .i64 (a : Int)) = .returned (.int .i64 (b : Int)) := by rw [h]
theorem get_st (sm : List UInt8) (w : World) (hs : sm.length = 32) (h : AtO w0 w O s M R L) :
    Calls Try.prog 18 #[.pointer (some ⟨s, 0, none⟩), .agg (bv sm).toArray] w fun e w' => ∃ A k c, e = .returned (.tuple #[.slice A k c, .int .i64 (if sm ∈ sums L then 0 else 90 : Nat)]) ∧ (sm ∈ sums L → Ow w' w.heap.size 5 A k c (bv (dataOf sm L))) ∧ (sm ∉ sums L → A = none ∧ k = 0 ∧ c = 0) ∧ Step w0 w O s M R (SM.use sm L) w' := by
  by_cases hin : sm ∈ sums L
  · refine (get_at sm w hs h hin).mono ?_
    rintro e w' ⟨A, k, c, rfl, ho, h1, hK⟩
    exact ⟨A, k, c, by rw [if_pos hin]; rfl, fun _ => ho, fun e => absurd hin e, Step.own h1 hK⟩
  · refine (get_miss sm w hs h.1 hin).mono ?_
    rintro e w' ⟨rfl, hb⟩
    rw [useM_miss hin]
    exact ⟨none, 0, 0, by rw [if_neg hin]; rfl, fun e => absurd e hin, fun _ => ⟨rfl, rfl, rfl⟩, Step.same h hb⟩
theorem pin_st (sm : List UInt8) (w : World) (hs : sm.length = 32) (h : AtO w0 w O s M R L) (hh : ∀ e ∈ L, e.held < 4611686018427387904) :
    Calls Try.prog 22 #[.pointer (some ⟨s, 0, none⟩), .agg (bv sm).toArray] w fun e w' => e = .returned (.int .i64 (if sm ∈ sums L then 0 else 90 : Nat)) ∧ Step w0 w O s M R (SM.pin sm L) w' := by
  by_cases hin : sm ∈ sums L
  · refine (pin_at sm w hs h hin hh).mono ?_
    rintro e w' ⟨rfl, h1, hK⟩
    exact ⟨by rw [if_pos hin]; rfl, Step.own h1 hK⟩
  · refine (pin_miss sm w hs h.1 hin).mono ?_
    rintro e w' ⟨rfl, hb⟩
    rw [pinM_miss hin]
    exact ⟨by rw [if_neg hin]; rfl, Step.same h hb⟩
/-- what letting go leaves -/
def unpinL (sm : List UInt8) (L : List Ent) : List Ent := if sm ∈ sums L ∧ heldOf sm L = 0 then L else SM.unpin sm L
def unpinE (sm : List UInt8) (L : List Ent) : Nat := if sm ∈ sums L then (if heldOf sm L = 0 then 91 else 0) else 90
theorem unpin_st (sm : List UInt8) (w : World) (hs : sm.length = 32) (h : AtO w0 w O s M R L) (hh : ∀ e ∈ L, e.held < 4611686018427387904) :
    Calls Try.prog 24 #[.pointer (some ⟨s, 0, none⟩), .agg (bv sm).toArray] w fun e w' => e = .returned (.int .i64 (unpinE sm L : Nat)) ∧ Step w0 w O s M R (unpinL sm L) w' := by
  unfold unpinL unpinE
  by_cases hin : sm ∈ sums L
  · by_cases hz : heldOf sm L = 0
    · refine (unpin_free sm w hs h.1 hin hz).mono ?_
      rintro e w' ⟨rfl, hb⟩
      rw [if_pos hin, if_pos hz, if_pos ⟨hin, hz⟩]
      exact ⟨rfl, Step.same h hb⟩
    · refine (unpin_hit sm w hs h.1 hin hh hz).mono ?_
      rintro e w' ⟨rfl, hS, hK⟩
      rw [if_pos hin, if_neg hz, if_neg (fun e => hz e.2)]
      exact ⟨rfl, Step.own ⟨hS, fun i hi => ⟨(h.2.1 i hi).1, Nat.lt_of_lt_of_le (h.2.1 i hi).2 hK.size⟩, h.kept hK⟩ hK⟩
  · refine (unpin_miss sm w hs h.1 hin).mono ?_
    rintro e w' ⟨rfl, hb⟩
    rw [if_neg hin, if_neg (fun e => hin e.1), unpinM_miss hin]
    exact ⟨rfl, Step.same h hb⟩
theorem evict_st (sm : List UInt8) (w : World) (hs : sm.length = 32) (h : AtO w0 w O s M R L) :
    Calls Try.prog 26 #[.pointer (some ⟨s, 0, none⟩), .agg (bv sm).toArray] w fun e w' => e = .returned (.int .i64 (if sm ∈ sums L then 0 else 90 : Nat)) ∧ Step w0 w O s M R (SM.evict sm L) w' := by
  by_cases hin : sm ∈ sums L
  · refine (evict_hit sm w hs h.1 hin).mono ?_
    rintro e w' ⟨rfl, hS, hK⟩
    exact ⟨by rw [if_pos hin]; rfl, Step.wide h hS hK⟩
  · refine (evict_miss sm w hs h.1 hin).mono ?_
    rintro e w' ⟨rfl, hb⟩
    rw [evictM_miss hin]
    exact ⟨by rw [if_neg hin]; rfl, Step.same h hb⟩
theorem wipe_st (w : World) (h : AtO w0 w O s M R L) :
    Calls Try.prog 40 #[.pointer (some ⟨s, 0, none⟩)] w fun e w' => e = .returned (.tuple #[]) ∧ Step w0 w O s M R [] w' := by
  refine (wipe_any w h.1).mono ?_
  rintro e w' ⟨rfl, hS, hK⟩
  exact ⟨rfl, Step.wide h hS hK⟩
theorem put_st (sm data : List UInt8) (A : Option Addr) (k c B : Nat) (w : World) (hs : sm.length = 32) (h : AtO w0 w O s M R L) (hd : Rd w B A k (bv data)) (hdo : ∀ i, blk A = some i → i < B → ¬ O i) (hB : B ≤ w.heap.size) (hk : k ≤ 281474976710656) :
    Calls Try.prog 29 #[.pointer (some ⟨s, 0, none⟩), .agg (bv sm).toArray, .slice A k c] w fun e w' => e = .returned (.int .i64 (putE sm data M R L : Nat)) ∧ Step w0 w O s M R (putL sm data M R L) w' := by
  refine (put_any sm data A k c B w hs h.1 hd hdo hB hk).mono ?_
  rintro e w' ⟨rfl, hS, hK⟩
  exact ⟨rfl, Step.wide h hS hK⟩
end Go.Proofs.Ytnmifaohmafobaa.st
