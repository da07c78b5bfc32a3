/- A store: how often a chunk is held. -/
import Derived.Test.YtnmifaohmafobaaStAA
namespace Go.Proofs.Ytnmifaohmafobaa.st
open Go.RowKit Go.Shelf Mem SM
set_option linter.unusedVariables false
variable {w0 w w' y : World} {O : Nat → Prop} {s M R : Nat} {L : List Ent}
theorem sums_pin (t : List UInt8) (L : List Ent) : sums (SM.pin t L) = sums L := by
  unfold sums SM.pin
  rw [List.map_map]
  exact List.map_congr_left (fun e _ => by simp only [Function.comp_apply]; split <;> rfl)
theorem sums_unpin (t : List UInt8) (L : List Ent) : sums (SM.unpin t L) = sums L := by
  unfold sums SM.unpin
  rw [List.map_map]
  exact List.map_congr_left (fun e _ => by simp only [Function.comp_apply]; split <;> rfl)
theorem not_evict (t : List UInt8) (L : List Ent) : t ∉ sums (SM.evict t L) := by
  intro h
  obtain ⟨e, he, h2⟩ := List.mem_map.1 h
  have := (List.mem_filter.1 he).2
  rw [h2] at this
  simp at this
theorem held_pin (t : List UInt8) : ∀ (L : List Ent), t ∈ sums L → heldOf t (SM.pin t L) = heldOf t L + 1
  | [], h => by simp [sums] at h
  | e :: L, h => by
    by_cases he : e.sum = t
    · simp [heldOf, SM.pin, he]
    · have h2 : t ∈ sums L := by
        rcases List.mem_cons.1 (show t ∈ e.sum :: sums L from h) with h | h
        · exact absurd h.symm he
        · exact h
      have ih := held_pin t L h2
      simpa [heldOf, SM.pin, he] using ih
theorem held_unpin (t : List UInt8) : ∀ (L : List Ent), heldOf t (SM.unpin t L) = heldOf t L - 1
  | [] => by simp [heldOf, SM.unpin]
  | e :: L => by
    by_cases he : e.sum = t
    · simp [heldOf, SM.unpin, he]
    · have ih := held_unpin t L
      simpa [heldOf, SM.unpin, he] using ih
theorem bound_pin {H : Nat} (t : List UInt8) (h : ∀ e ∈ L, e.held ≤ H) : ∀ e ∈ SM.pin t L, e.held ≤ H + 1 := fun e he => by
  obtain ⟨x, hx, rfl⟩ := List.mem_map.1 he
  have := h x hx
  split
  · simp only; omega
  · omega
theorem bound_unpin {H : Nat} (t : List UInt8) (h : ∀ e ∈ L, e.held ≤ H) : ∀ e ∈ SM.unpin t L, e.held ≤ H := fun e he => by
  obtain ⟨x, hx, rfl⟩ := List.mem_map.1 he
  have := h x hx
  split
  · simp only; omega
  · omega
theorem bound_evict {H : Nat} (t : List UInt8) (h : ∀ e ∈ L, e.held ≤ H) : ∀ e ∈ SM.evict t L, e.held ≤ H := fun e he => h e (List.mem_filter.1 he).1
theorem bound_put {H : Nat} (t d : List UInt8) (h : ∀ e ∈ L, e.held ≤ H) : ∀ e ∈ putL t d M R L, e.held ≤ H := fun e he => by
  unfold putL at he
  split at he
  · unfold SM.use at he
    rcases List.mem_append.1 he with he | he
    · exact h e (List.mem_filter.1 he).1
    · exact h e (List.mem_filter.1 he).1
  · split at he
    · exact h e he
    · rcases List.mem_append.1 he with he | he
      · exact h e (mem_shrink _ he)
      · rw [List.mem_singleton.1 he]
        exact Nat.zero_le _
theorem Dos.more' {B B' n : Nat} {A : Option Addr} {ds : List DoV} (h : Dos w B A n ds) (hB : B ≤ B') : Dos w B' A n ds :=
  ⟨h.len, fun hn => by
    obtain ⟨b, off, e, hl, hc⟩ := h.addr hn
    refine ⟨b, off, e, Nat.lt_of_lt_of_le hl hB, fun i hi => ?_⟩
    obtain ⟨Ai, mi, ki, c0, c1, c2, c3, hk, hr⟩ := hc i hi
    exact ⟨Ai, mi, ki, c0, c1, c2, c3, hk, hr.more hB⟩⟩
/-- what is new is there, and not held -/
theorem put_new (t d : List UInt8) (hin : t ∉ sums L) : (putE t d M R L = 7 ∧ putL t d M R L = L) ∨ (putE t d M R L = 0 ∧ t ∈ sums (putL t d M R L) ∧ heldOf t (putL t d M R L) = 0) := by
  unfold putE putL
  rw [if_neg hin, if_neg hin]
  by_cases hf : full M R d.length L
  · rw [if_pos hf, if_pos hf]
    exact Or.inl ⟨rfl, rfl⟩
  · rw [if_neg hf, if_neg hf]
    refine Or.inr ⟨rfl, by unfold sums; simp, ?_⟩
    have hnot : ∀ e ∈ shrink M R d.length L.length L, e.sum ≠ t := fun e he h2 => hin (List.mem_map.2 ⟨e, mem_shrink _ he, h2⟩)
    generalize shrink M R d.length L.length L = K at hnot
    induction K with
    | nil => simp [heldOf]
    | cons e K ih =>
      have h1 := hnot e (by simp)
      have := ih (fun x hx => hnot x (by simp [hx]))
      simpa [heldOf, h1] using this
theorem dos_one (k : DoV) (A : Option Addr) (n c : Nat) (w : World) (hc : n ≤ c) (hr : Rd w w.heap.size A n (bv k.data)) :
    Dos (w.alloc (.cells #[.int .i64 k.op, .int .i64 k.id, .slice A n c, .int .i64 k.n] 34)) (w.heap.size + 1) (some ⟨w.heap.size, 0, none⟩) 1 [k] := by
  have hb : Below w.heap.size w (w.alloc (.cells #[.int .i64 k.op, .int .i64 k.id, .slice A n c, .int .i64 k.n] 34)) := (Below.refl _ _).alloc (Nat.le_refl _) _
  refine ⟨rfl, fun _ => ⟨_, 0, rfl, by omega, fun i hi => ?_⟩⟩
  obtain rfl : i = 0 := by simpa using hi
  refine ⟨A, n, c, ?_, ?_, ?_, ?_, hc, (hr.below hb (Nat.le_refl _)).more (Nat.le_succ _)⟩
  all_goals go_simp
end Go.Proofs.Ytnmifaohmafobaa.st
