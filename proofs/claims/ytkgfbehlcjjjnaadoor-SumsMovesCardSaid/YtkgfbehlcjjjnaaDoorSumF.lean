/- A slice of slices of bytes that came in, as parts; the table out of the row's list; a world for the witness. -/
import Derived.Test.YtkgfbehlcjjjnaaDoorSumC
import Derived.Test.YtkgfbehlcjjjnaaDoorCards
import Derived.Test.YtkgfbehlcjjjnaaDoorTie
import Derived.ProofKit
import Derived.OpenShut
import Derived.Deep.DeepHandedRow
import Derived.Deep.Matrix
import Derived.Lib.LaidTab
namespace Go.Proofs.YtkgfbehlcjjjnaaDoor.sum
open Go.RowKit Mem SM lib CM

theorem parts_rows {w : World} {a : Addr} {len cap : Nat} {A : Nat → Option Addr} {L C : Nat → Nat} {Z : Nat → List Int} (hl : len ≤ cap)
    (h : ∀ r, r < cap → w.cell? (a.add r) = some (.slice (A r) (L r) (C r)) ∧ L r ≤ C r ∧ C r ≤ maxLen ∧ (Z r).length = C r ∧ (∀ n ∈ Z r, (Lit.int .u8 n).wf = true) ∧ (A r = none → C r = 0) ∧
      ∀ a', A r = some a' → 0 ≤ a'.block ∧ ∀ c, c < C r → w.cell? (a'.add c) = some (.int .u8 ((Z r).getD c 0))) :
    ∃ ls, Parts w w.heap.size (some a) len ls ∧ ∀ l ∈ ls, l.length ≤ 9223372036854775807 := by
  have each : ∀ r, r < cap → ∃ l : List UInt8, l.length = L r ∧ Rd w w.heap.size (A r) (L r) (bv l) := fun r hr => by
    obtain ⟨_, h2, h3, h4, h5, h6, h7⟩ := h r hr
    cases hA : A r with
    | none =>
      have : L r = 0 := by have := h6 hA; omega
      rw [this]
      exact ⟨[], rfl, Rd.nil _ _ _⟩
    | some a' =>
      obtain ⟨l, hl⟩ := rd_bytes h2 h4 (fun i hi => (h7 a' hA).2 i (by omega)) h5
      exact ⟨l, by rw [← bv_len, hl.len], hl⟩
  have hc : ∀ r : Nat, ∃ l : List UInt8, r < cap → l.length = L r ∧ Rd w w.heap.size (A r) (L r) (bv l) := fun r => by
    by_cases hr : r < cap
    · obtain ⟨l, h⟩ := each r hr
      exact ⟨l, fun _ => h⟩
    · exact ⟨[], fun h => absurd h hr⟩
  obtain ⟨f, hf⟩ : ∃ f : Nat → List UInt8, ∀ r, r < cap → (f r).length = L r ∧ Rd w w.heap.size (A r) (L r) (bv (f r)) := ⟨fun r => (hc r).choose, fun r => (hc r).choose_spec⟩
  refine ⟨(List.range len).map f, ⟨by simp, (List.range len).map fun r => .slice (A r) (L r) (C r), ?_, ?_⟩, ?_⟩
  · refine ⟨by simp, fun hn => ?_⟩
    obtain ⟨b, off, spot⟩ := a
    have h0 := (h 0 (by omega)).1
    have hs : spot = none := by simpa [Addr.add] using World.cell?_spot h0
    subst hs
    refine ⟨b, off, rfl, cell_lt (o := off) (by simpa [Addr.add] using h0), fun i hi => ?_⟩
    have := (h i (by omega)).1
    rw [Addr.add_lit] at this
    rw [this]
    simp [hi]
  · intro i hi
    have hi' : i < len := by simpa using hi
    obtain ⟨g1, g2⟩ := hf i (by omega)
    refine ⟨A i, C i, ?_, ?_, ?_⟩
    · simp [hi', g1]
    · simp only [List.getElem_map, List.getElem_range, g1]
      exact (h i (by omega)).2.1
    · simp only [List.getElem_map, List.getElem_range, g1]
      exact g2
  · intro l hl
    obtain ⟨r, hr, rfl⟩ := List.mem_map.1 hl
    have hr' : r < len := by simpa using hr
    have h1 := (hf r (by omega)).1
    have h2 := h r (by omega)
    have h3 := h2.2.2.1
    have h4 := h2.2.1
    unfold maxLen at h3
    omega

theorem own : ownKnob Tryd.prog.godebug = none := by kernel_rfl
theorem laidOut : laidOutB Tryd.prog = true := by kernel_rfl
theorem gTab : Tryd.prog.globalNamed "flume/sums.fours" = some 0 := by kernel_rfl
theorem gTabType : (Tryd.prog.globals[0]?).map (·.type) = some 56 := by kernel_rfl
theorem cellsTab : Tryd.prog.cellsOf 56 = 16 := by kernel_rfl
theorem cellsElem : Tryd.prog.cellsOf 40 = 1 := by kernel_rfl
def tabInts : List Int := fours.map fun (x : Nat) => (x : Int)
theorem table {W : World} {laid : List (String × DataW Unit)} (hl : laid = [("flume/sums.fours", Rows.laid_flume_sums_fours)]) (h : laidMetH Tryd.prog laid W) : Tab W := by
  subst hl
  have t : Lib.TabIs Tryd.prog W "flume/sums.fours" .u32 tabInts := Lib.tabIs_of_head (rest := []) gTab gTabType Tryd.underlying56 Tryd.underlying40 cellsElem cellsTab h
  intro i hi
  have := t.cell gTab i (by simpa [tabInts, fours] using hi)
  rw [this]
  have e : tabInts.getD i 0 = ((fours.getD i 0 : Nat) : Int) := by
    unfold tabInts
    rw [List.getD_eq_getElem?_getD, List.getD_eq_getElem?_getD, List.getElem?_map]
    cases fours[i]? <;> rfl
  rw [e]
noncomputable def laidWorld (os : Os) : World :=
  { World.holding Tryd.prog os ⟨#[], #[], []⟩ with heap := (World.holding Tryd.prog os ⟨#[], #[], []⟩).heap.modify 0 fun
      | .cells _ t frozen => .cells #[.int .u32 0, .int .u32 498536548, .int .u32 997073096, .int .u32 651767980, .int .u32 1994146192, .int .u32 1802195444, .int .u32 1303535960, .int .u32 1342533948, .int .u32 3988292384, .int .u32 4027552580, .int .u32 3604390888, .int .u32 3412177804, .int .u32 2607071920, .int .u32 2262029012, .int .u32 2685067896, .int .u32 3183342108] t frozen
      | o => o }
end Go.Proofs.YtkgfbehlcjjjnaaDoor.sum
