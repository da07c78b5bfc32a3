/- A store as a list: room for a chunk. -/
import Derived.Test.YtnmifaohmafobaaStMath
namespace Go.Proofs.Ytnmifaohmafobaa.SM
def full (M R d : Nat) (L : List Ent) : Prop := M ≤ fixedN L ∨ R < fixedS L + d
instance (M R d : Nat) (L : List Ent) : Decidable (full M R d L) := by unfold full; exact inferInstance
def narrow (M R d : Nat) (L : List Ent) : Prop := M ≤ L.length ∨ R < total L + d
instance (M R d : Nat) (L : List Ent) : Decidable (narrow M R d L) := by unfold narrow; exact inferInstance
def isHeld (e : Ent) : Bool := decide (0 < e.held)
theorem held_free (e : Ent) : isFree e = !isHeld e := by
  unfold isFree isHeld
  rcases Nat.eq_zero_or_pos e.held with h | h
  · simp [h]
  · have h2 : ¬ e.held = 0 := by omega
    simp [h, h2]
theorem filter_erase : ∀ (L : List Ent), (L.eraseP isFree).filter isHeld = L.filter isHeld
  | [] => rfl
  | e :: L => by
    rw [List.eraseP_cons]
    cases h : isFree e with
    | true =>
      have : isHeld e = false := by have := held_free e; rw [h] at this; simpa using this.symm
      simp [this]
    | false =>
      simp only [cond_false, List.filter_cons, filter_erase L]
theorem fixedN_erase (L : List Ent) : fixedN (L.eraseP isFree) = fixedN L := congrArg List.length (filter_erase L)
theorem fixedS_erase (L : List Ent) : fixedS (L.eraseP isFree) = fixedS L := congrArg total (filter_erase L)
theorem full_erase (M R d : Nat) (L : List Ent) : full M R d (L.eraseP isFree) ↔ full M R d L := by unfold full; rw [fixedN_erase, fixedS_erase]
theorem free_exists {M R d : Nat} {L : List Ent} (h : ¬ full M R d L) (ht : narrow M R d L) : ∃ e ∈ L, isFree e = true := by
  cases hx : L.any isFree with
  | true => exact List.any_eq_true.1 hx
  | false =>
    exfalso
    have hall : L.filter (fun e => decide (0 < e.held)) = L := List.filter_eq_self.2 (fun e he => by
      have := List.any_eq_false.1 hx e he
      rw [held_free] at this
      simp [isHeld] at this
      simp; omega)
    unfold full at h
    unfold narrow at ht
    unfold fixedN fixedS at h
    rw [hall] at h
    omega
theorem shrink_go {M R d : Nat} {L : List Ent} (ht : narrow M R d L) (hf : ∃ e ∈ L, isFree e = true) : shrink M R d L.length L = shrink M R d (L.eraseP isFree).length (L.eraseP isFree) := by
  obtain ⟨e, he, hfe⟩ := hf
  have hl := List.length_eraseP_of_mem he hfe
  have hp := List.length_pos_of_mem he
  rw [hl]
  obtain ⟨k, hk⟩ : ∃ k, L.length = k + 1 := ⟨L.length - 1, by omega⟩
  rw [hk]
  show (if M ≤ L.length ∨ R < total L + d then shrink M R d k (L.eraseP isFree) else L) = _
  rw [if_pos (show M ≤ L.length ∨ R < total L + d from ht)]
  rfl
theorem shrink_end {M R d : Nat} {L : List Ent} (ht : ¬ narrow M R d L) : shrink M R d L.length L = L := by
  cases hl : L.length with
  | zero => rfl
  | succ k =>
    show (if M ≤ L.length ∨ R < total L + d then shrink M R d k (L.eraseP isFree) else L) = L
    rw [if_neg (show ¬ (M ≤ L.length ∨ R < total L + d) from ht)]
theorem sublist_total {A B : List Ent} (h : A.Sublist B) : total A ≤ total B := by
  induction h with
  | slnil => exact Nat.le_refl _
  | cons a _ ih => rw [total_cons]; omega
  | cons_cons a _ ih => rw [total_cons, total_cons]; omega
theorem eraseP_split {A B : List Ent} {e : Ent} (h1 : ∀ x ∈ A, isFree x = false) (h2 : isFree e = true) : (A ++ e :: B).eraseP isFree = A ++ B := by
  rw [List.eraseP_append_right _ (fun x hx => by rw [h1 x hx]; simp), List.eraseP_cons_of_pos h2]
theorem idle_split (E : Nat → Ent) (ns : List Nat) (h : ∃ e ∈ ns.map E, isFree e = true) : ∃ xs n ys, ns = xs ++ n :: ys ∧ (ns.find? (fun n => (E n).held == 0)).getD 0 = n ∧ (∀ m ∈ xs, isFree (E m) = false) ∧ isFree (E n) = true := by
  induction ns with
  | nil => obtain ⟨e, he, _⟩ := h; cases he
  | cons m ns ih =>
    by_cases hm : isFree (E m) = true
    · refine ⟨[], m, ns, rfl, ?_, (fun _ h => by cases h), hm⟩
      rw [List.find?_cons_of_pos (by exact hm)]; rfl
    · have hm' : isFree (E m) = false := by simpa using hm
      obtain ⟨e, he, hf⟩ := h
      rw [List.map_cons] at he
      rcases List.mem_cons.1 he with e1 | e1
      · rw [e1, hm'] at hf; cases hf
      · obtain ⟨xs, n, ys, rfl, h2, h3, h4⟩ := ih ⟨e, e1, hf⟩
        refine ⟨m :: xs, n, ys, rfl, ?_, fun x hx => ?_, h4⟩
        · rw [List.find?_cons_of_neg (by exact hm)]; exact h2
        · rcases List.mem_cons.1 hx with e2 | e2
          · rw [e2]; exact hm'
          · exact h3 x e2
/-- what Put leaves -/
def putL (s data : List UInt8) (M R : Nat) (L : List Ent) : List Ent := if s ∈ sums L then use s L else if full M R data.length L then L else shrink M R data.length L.length L ++ [⟨s, data, 0⟩]
def putE (s data : List UInt8) (M R : Nat) (L : List Ent) : Nat := if s ∈ sums L then 0 else if full M R data.length L then 7 else 0
end Go.Proofs.Ytnmifaohmafobaa.SM
