/- record: the numbers that a note of its kind has. -/
import Derived.Test.YtbcgnacfhpahkaaDoorRcH
namespace Go.Proofs.YtbcgnacfhpahkaaDoor.rc
set_option maxRecDepth 20000
open Go.RowKit Mem OM
set_option linter.unusedVariables false
set_option linter.unusedSimpArgs false
attribute [local go_sem] Oper.semAt_some
/-- where a note's numbers stand, and the greatest that each may be -/
def flds (N : Int) : List (Nat × Int) := if N = 1 then [(1, 1073741824), (2, 65535), (3, 65535)] else if N = 2 ∨ N = 5 ∨ N = 6 then [(1, 1073741824), (4, 1073741824)] else if N = 3 ∨ N = 4 then [(1, 1073741824)] else []
def fldL (g : Nat) : List (Nat × Int) → List Value
  | [] => []
  | (k, m) :: l => .pointer (some ⟨g, k, none⟩) :: .int .i64 m :: fldL g l
def FldPost (g : Nat) (N : Int) (w : World) (e : Ending) (w' : World) : Prop := ∃ A c, e = .returned (.slice A (flds N).length c) ∧ (0 < (flds N).length → ∃ b, A = some ⟨b, 0, none⟩ ∧ w.heap.size ≤ b ∧ b < w'.heap.size ∧ w'.rangeAt b 0 (fldL g (flds N))) ∧ Below w.heap.size w w'
theorem fld_end (g : Nat) (N : Int) {w w1 : World} (hb : Below w.heap.size w w1) (t : TypeId) (b m : Nat) (cs : Array Value) (hbs : w1.heap.size = b) (hm : (flds N).length = m) (hcs : (fldL g (flds N)).toArray = cs) :
    ∃ A c, Ending.returned (.slice (some ⟨b, 0, none⟩) m m) = .returned (.slice A (flds N).length c) ∧ (0 < (flds N).length → ∃ b, A = some ⟨b, 0, none⟩ ∧ w.heap.size ≤ b ∧ b < (w1.alloc (.cells cs t)).drew.heap.size ∧ (w1.alloc (.cells cs t)).drew.rangeAt b 0 (fldL g (flds N))) ∧ Below w.heap.size w (w1.alloc (.cells cs t)).drew := by
  subst hbs hm hcs
  refine ⟨_, _, rfl, fun _ => ⟨_, rfl, hb.size, ?_, ?_⟩, lz.below_drew (hb.alloc hb.size _)⟩
  · show _ < (w1.alloc _).heap.size
    simp
  · exact fun j v hj => dg.range_new w1 _ t j v hj
theorem fld_end2 (g : Nat) (N : Int) {w w1 : World} (hb : Below w.heap.size w w1) (t : TypeId) (b m : Nat) (cs : Array Value) (hbs : w1.heap.size = b) (hm : (flds N).length = m) (hcs : (fldL g (flds N)).toArray = cs) :
    ∃ A c, Ending.returned (.slice (some ⟨b, 0, none⟩) m m) = .returned (.slice A (flds N).length c) ∧ (0 < (flds N).length → ∃ b, A = some ⟨b, 0, none⟩ ∧ w.heap.size ≤ b ∧ b < (w1.alloc (.cells cs t)).drew.drew.heap.size ∧ (w1.alloc (.cells cs t)).drew.drew.rangeAt b 0 (fldL g (flds N))) ∧ Below w.heap.size w (w1.alloc (.cells cs t)).drew.drew := by
  subst hbs hm hcs
  refine ⟨_, _, rfl, fun _ => ⟨_, rfl, hb.size, ?_, ?_⟩, lz.below_drew (lz.below_drew (hb.alloc hb.size _))⟩
  · show _ < (w1.alloc _).heap.size
    simp
  · exact fun j v hj => dg.range_new w1 _ t j v hj
set_option maxHeartbeats 4000000 in
theorem fields_one (g : Nat) (w : World) (hc : w.cell? ⟨g, 0, none⟩ = some (.int .i64 1)) : Calls Tryd.prog 33 #[.pointer (some ⟨g, 0, none⟩)] w (FldPost g 1 w) := by
  have hg : g < w.heap.size := cell_lt hc
  unfold FldPost
  go_enter Tryd.func33, Tryd.ntmps33
  go_wp2_with fail
  go_region
  all_goals
    go_wp2_with fail
    go_region
    go_wp2_with fail
    go_ret
    exact fld_end2 g 1 (((Below.refl _ w).alloc (Nat.le_refl _) _).alloc (by simp) _) _ (w.heap.size + 1 + 1) 3 _ (by simp) rfl (by rfl)
set_option maxHeartbeats 4000000 in
theorem fields_two (g : Nat) (w : World) (hc : w.cell? ⟨g, 0, none⟩ = some (.int .i64 2)) : Calls Tryd.prog 33 #[.pointer (some ⟨g, 0, none⟩)] w (FldPost g 2 w) := by
  have hg : g < w.heap.size := cell_lt hc
  unfold FldPost
  go_enter Tryd.func33, Tryd.ntmps33
  go_wp2_with fail
  go_region
  all_goals
    go_wp2_with fail
    go_ret
    exact fld_end g 2 (((Below.refl _ w).alloc (Nat.le_refl _) _).alloc (by simp) _) _ _ 2 _ (by simp) rfl (by rfl)
set_option maxHeartbeats 4000000 in
theorem fields_five (g : Nat) (w : World) (hc : w.cell? ⟨g, 0, none⟩ = some (.int .i64 5)) : Calls Tryd.prog 33 #[.pointer (some ⟨g, 0, none⟩)] w (FldPost g 5 w) := by
  have hg : g < w.heap.size := cell_lt hc
  unfold FldPost
  go_enter Tryd.func33, Tryd.ntmps33
  go_wp2_with fail
  go_region
  all_goals
    go_wp2_with fail
    go_ret
    exact fld_end g 5 (((Below.refl _ w).alloc (Nat.le_refl _) _).alloc (by simp) _) _ _ 2 _ (by simp) rfl (by rfl)
set_option maxHeartbeats 4000000 in
theorem fields_six (g : Nat) (w : World) (hc : w.cell? ⟨g, 0, none⟩ = some (.int .i64 6)) : Calls Tryd.prog 33 #[.pointer (some ⟨g, 0, none⟩)] w (FldPost g 6 w) := by
  have hg : g < w.heap.size := cell_lt hc
  unfold FldPost
  go_enter Tryd.func33, Tryd.ntmps33
  go_wp2_with fail
  go_region
  all_goals
    go_wp2_with fail
    go_ret
    exact fld_end g 6 (((Below.refl _ w).alloc (Nat.le_refl _) _).alloc (by simp) _) _ _ 2 _ (by simp) rfl (by rfl)
set_option maxHeartbeats 4000000 in
theorem fields_three (g : Nat) (w : World) (hc : w.cell? ⟨g, 0, none⟩ = some (.int .i64 3)) : Calls Tryd.prog 33 #[.pointer (some ⟨g, 0, none⟩)] w (FldPost g 3 w) := by
  have hg : g < w.heap.size := cell_lt hc
  unfold FldPost
  go_enter Tryd.func33, Tryd.ntmps33
  go_wp2_with fail
  go_region
  all_goals
    go_wp2_with fail
    go_ret
    exact fld_end g 3 (((Below.refl _ w).alloc (Nat.le_refl _) _).alloc (by simp) _) _ _ 1 _ (by simp) rfl (by rfl)
set_option maxHeartbeats 4000000 in
theorem fields_four (g : Nat) (w : World) (hc : w.cell? ⟨g, 0, none⟩ = some (.int .i64 4)) : Calls Tryd.prog 33 #[.pointer (some ⟨g, 0, none⟩)] w (FldPost g 4 w) := by
  have hg : g < w.heap.size := cell_lt hc
  unfold FldPost
  go_enter Tryd.func33, Tryd.ntmps33
  go_wp2_with fail
  go_region
  all_goals
    go_wp2_with fail
    go_ret
    exact fld_end g 4 (((Below.refl _ w).alloc (Nat.le_refl _) _).alloc (by simp) _) _ _ 1 _ (by simp) rfl (by rfl)
set_option maxHeartbeats 4000000 in
theorem fields_none (g : Nat) (N : Int) (w : World) (hc : w.cell? ⟨g, 0, none⟩ = some (.int .i64 N)) (h1 : N ≠ 1) (h2 : N ≠ 2) (h3 : N ≠ 3) (h4 : N ≠ 4) (h5 : N ≠ 5) (h6 : N ≠ 6) : Calls Tryd.prog 33 #[.pointer (some ⟨g, 0, none⟩)] w (FldPost g N w) := by
  have hg : g < w.heap.size := cell_lt hc
  have hf : flds N = [] := by unfold flds; rw [if_neg h1, if_neg (by omega), if_neg (by omega)]
  unfold FldPost
  rw [hf]
  have b1 : (N == 1) = false := beq_eq_false_iff_ne.2 h1
  have b2 : (N == 2) = false := beq_eq_false_iff_ne.2 h2
  have b3 : (N == 3) = false := beq_eq_false_iff_ne.2 h3
  have b4 : (N == 4) = false := beq_eq_false_iff_ne.2 h4
  have b5 : (N == 5) = false := beq_eq_false_iff_ne.2 h5
  have b6 : (N == 6) = false := beq_eq_false_iff_ne.2 h6
  go_enter Tryd.func33, Tryd.ntmps33
  go_wp2_with fail
  go_region
  all_goals
    go_wp2_with fail
    go_ret
    exact ⟨none, 0, rfl, fun h => absurd h (by simp), lz.below_drew (((Below.refl _ w).alloc (Nat.le_refl _) _).alloc (by simp) _)⟩
theorem fields_any (g : Nat) (N : Int) (w : World) (hc : w.cell? ⟨g, 0, none⟩ = some (.int .i64 N)) : Calls Tryd.prog 33 #[.pointer (some ⟨g, 0, none⟩)] w (FldPost g N w) := by
  by_cases h1 : N = 1
  · subst h1; exact fields_one g w hc
  by_cases h2 : N = 2
  · subst h2; exact fields_two g w hc
  by_cases h3 : N = 3
  · subst h3; exact fields_three g w hc
  by_cases h4 : N = 4
  · subst h4; exact fields_four g w hc
  by_cases h5 : N = 5
  · subst h5; exact fields_five g w hc
  by_cases h6 : N = 6
  · subst h6; exact fields_six g w hc
  exact fields_none g N w hc h1 h2 h3 h4 h5 h6
end Go.Proofs.YtbcgnacfhpahkaaDoor.rc
