/- A store: a chunk that is put once more; lists that stay. -/
import Derived.Test.YtnmifaohmafobaaStAB
namespace Go.Proofs.Ytnmifaohmafobaa.st
open Go.RowKit Go.Shelf Mem SM
set_option linter.unusedVariables false
variable {w0 w w' y : World} {O : Nat → Prop} {s M R : Nat} {L : List Ent}
theorem use_idem (t : List UInt8) (L : List Ent) : SM.use t (SM.use t L) = SM.use t L := by
  unfold SM.use
  rw [List.filter_append, List.filter_append, List.filter_filter, List.filter_filter, List.filter_filter, List.filter_filter]
  have e1 : (List.filter (fun a => (a.sum != t) && (a.sum == t)) L) = [] := List.filter_eq_nil_iff.2 (fun x _ => by cases h : x.sum == t <;> simp_all)
  have e2 : (List.filter (fun a => (a.sum == t) && (a.sum != t)) L) = [] := List.filter_eq_nil_iff.2 (fun x _ => by cases h : x.sum == t <;> simp_all)
  rw [e1, e2]
  simp
theorem dataOf_use (t : List UInt8) (L : List Ent) : dataOf t (SM.use t L) = dataOf t L := by
  unfold dataOf SM.use
  rw [List.find?_append]
  have h1 : (L.filter (fun e => e.sum != t)).find? (fun e => e.sum == t) = none := List.find?_eq_none.2 (fun x hx => by
    have := (List.mem_filter.1 hx).2
    cases h : x.sum == t <;> simp_all)
  have h2 : (L.filter (fun e => e.sum == t)).find? (fun e => e.sum == t) = L.find? (fun e => e.sum == t) := by
    rw [List.find?_filter]
    congr 1
    funext e
    first | exact Bool.and_self _ | (cases h : (e.sum == t) <;> simp_all)
  rw [h1, h2]
  rfl
theorem mem_use {t : List UInt8} {L : List Ent} (h : t ∈ sums L) : t ∈ sums (SM.use t L) := by
  obtain ⟨e, he, h2⟩ := List.mem_map.1 h
  exact List.mem_map.2 ⟨e, List.mem_append_right _ (List.mem_filter.2 ⟨he, by rw [h2]; simp⟩), h2⟩
theorem put_two (t d : List UInt8) (M R : Nat) (L : List Ent) : putE t d M R L = 7 ∨ (putE t d M R L = 0 ∧ t ∈ sums (putL t d M R L)) := by
  by_cases h : t ∈ sums L
  · refine Or.inr ⟨by unfold putE; rw [if_pos h], ?_⟩
    unfold putL
    rw [if_pos h]
    exact mem_use h
  · rcases put_new (M := M) (R := R) t d h with ⟨h1, _⟩ | ⟨h1, h2, _⟩
    · exact Or.inl h1
    · exact Or.inr ⟨h1, h2⟩
theorem put_in {t : List UInt8} (d : List UInt8) (M R : Nat) {L : List Ent} (h : t ∈ sums L) : putE t d M R L = 0 ∧ putL t d M R L = SM.use t L := by
  unfold putE putL
  rw [if_pos h, if_pos h]
  exact ⟨rfl, rfl⟩
theorem AtO.lens (h : AtO w0 w O s M R L) : ∀ e ∈ L, e.sum.length = 32 := fun e he => by
  obtain ⟨r, g, mb, FA, fc, E, D, ns, fs, hB, rfl, h0⟩ := h.1.row
  obtain ⟨x, hx, rfl⟩ := List.mem_map.1 he
  exact hB.len x (hB.mem (Or.inl hx)).2
theorem AtO.few (h : AtO w0 w O s M R L) : L.length ≤ 64 := by
  obtain ⟨r, g, mb, FA, fc, E, D, ns, fs, hB, rfl, h0⟩ := h.1.row
  have h1 := hB.count
  have h2 := hB.mle.2
  rw [List.length_map]
  omega
theorem RdS.kept {v : Value} {l : List (List UInt8)} {bad : Nat → Prop} (h : RdS w v l) (k : Kept w w' bad) (hb : ∀ a n c, v = .slice (some a) n c → ¬ bad a.block) : RdS w' v l := by
  obtain ⟨A, c, rfl, h1, h2⟩ := h
  refine ⟨A, c, rfl, h1, fun j hj => ?_⟩
  obtain ⟨g, o, rfl, h3, h4⟩ := h2 j hj
  have hn := hb _ _ _ rfl
  exact ⟨g, o, rfl, Nat.lt_of_lt_of_le h3 k.size, fun i v hv => (k.cell (a := ⟨g, o + j * 32 + i, none⟩) h3 hn).trans (h4 i v hv)⟩
theorem list_at2 (w : World) (h : AtO w0 w O s M R L) :
    Calls Try.prog 35 #[.pointer (some ⟨s, 0, none⟩)] w fun e w' => ∃ v, e = .returned v ∧ RdS w' v (sums L) ∧ (∀ a n c, v = .slice (some a) n c → w.heap.size ≤ a.block ∧ a.block < w'.heap.size) ∧ Below w.heap.size w w' := by
  refine (list_any w h.1).mono ?_
  rintro e w' ⟨v, rfl, ho, hb⟩
  refine ⟨v, rfl, rds_of_row ho (fun x hx => by obtain ⟨e, he, rfl⟩ := List.mem_map.1 hx; exact h.lens e he), fun a n c e => ?_, hb⟩
  rcases ho.2 with ⟨e2, _⟩ | ⟨g, cap, cur, e2, hg, hbk, _⟩
  · rw [e2] at e; cases e
  · rw [e2] at e
    injection e with e3
    injection e3 with e3
    subst e3
    exact ⟨hg, (Array.getElem?_eq_some_iff.1 hbk).1⟩
theorem kept_two {O' : Nat → Prop} {z : World} (k1 : Kept w y (fun i => O i ∨ w.heap.size ≤ i)) (ho : ∀ i, O' i → i < w.heap.size → O i) (k2 : Kept y z (fun i => O' i ∨ y.heap.size ≤ i)) : Kept w z (fun i => O i ∨ w.heap.size ≤ i) :=
  k1.trans k2 (fun i hi e => by
    rcases e with e | e
    · exact Or.inl (ho i e hi)
    · exact Or.inr (Nat.le_trans k1.size e))
end Go.Proofs.Ytnmifaohmafobaa.st
