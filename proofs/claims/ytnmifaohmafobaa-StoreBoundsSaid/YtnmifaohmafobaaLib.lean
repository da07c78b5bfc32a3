/- Contracts of bytes.Equal and slices.Clone, and the types of bytes and ints. -/
import Derived.Test.YtnmifaohmafobaaRows
import Derived.Test.YtnmifaohmafobaaMem
namespace Go.Proofs.Ytnmifaohmafobaa.lib
open Go.RowKit Mem
theorem u8ty : Ty1 Try.prog 32 5 (.int .u8 0) 1 :=
  ⟨Try.underlying32, by
    have h : (Try.prog.info? 5).map (fun i => (i.zero, i.size, i.bytes)) = some (some (.int .u8 0), 1, 1) := by kernel_rfl
    obtain ⟨i, h1, h2, h3, h4⟩ := info_parts h
    exact ⟨i, h1, h2, h3, h4⟩, rfl⟩
theorem bs_toList (l : List UInt8) : (bs l).toList = l := by rw [ByteArray.toList_eq]; rfl
theorem ret_bool {a b : Bool} (h : a = b) : Ending.returned (.bool a) = .returned (.bool b) := by rw [h]
theorem ret_int {k : IntKind} {a b : Int} (h : a = b) : Ending.returned (.int k a) = .returned (.int k b) := by rw [h]

theorem equal_any (A1 A2 : Option Addr) (n c m d B : Nat) (l r : List UInt8) (w : World) (h1 : Rd w B A1 n (bv l)) (h2 : Rd w B A2 m (bv r)) :
    Calls Try.prog 21 #[.slice A1 n c, .slice A2 m d] w fun e w' => e = .returned (.bool (decide (l = r))) ∧ w = w' := by
  have r1 := run_string Try.underlying32 Try.underlying5 Try.underlying9 h1 c
  have r2 := run_string Try.underlying32 Try.underlying5 Try.underlying9 h2 d
  go_enter Try.func21, Try.ntmps21
  go_wp2
  go_ret
  exact ⟨ret_bool (by rw [bs_toList, bs_toList]; by_cases h : l = r <;> simp [h]), rfl⟩

/-- what a call leaves that answers new bytes -/
def Made (w : World) (l : List UInt8) (e : Ending) (w' : World) : Prop := ∃ A N c, e = .returned (.slice A N c) ∧ Ow w' w.heap.size 5 A N c (bv l) ∧ Below w.heap.size w w'

theorem clone_any (A : Option Addr) (n c B : Nat) (l : List UInt8) (w : World) (h : Rd w B A n (bv l)) (hB : B ≤ w.heap.size) (hn : n ≤ 140737488351232) :
    Calls Try.prog 17 #[.slice A n c] w (Made w l) := by
  have hnil := fun (a : Option Addr) => Lib.run_eql_slice_nil w _ _ a n c 0 0 Try.underlying32
  cases A with
  | none =>
    have h0 : l = [] := by
      rcases Nat.eq_zero_or_pos n with h0 | h0
      · exact List.eq_nil_of_length_eq_zero (by rw [← bv_len, h.len, h0])
      · obtain ⟨b, off, e, _⟩ := h.addr h0; cases e
    subst h0
    have Hh := Lib.hid h
    clear h
    go_enter Try.func17, Try.ntmps17
    go_wp2
    go_ret
    exact ⟨_, _, _, rfl, Ow.nil w _ _, Below.refl _ _⟩
  | some ad =>
    have hb : Below B w (w.alloc (.cells #[] 5)) := (Below.refl _ _).alloc hB _
    have h2 := h.below hb (Nat.le_refl _)
    have ho := Ow.lit w 5 [] (base := w.heap.size) (Nat.le_refl _) (by simp [maxLen])
    go_enter Try.func17, Try.ntmps17
    go_wp2_with (at_builtin; refine wp_app u8ty rfl (.tmp 5) (.tmp 6) rfl rfl rfl ho h2 (bv_one l) (by simp; omega) (by simp; omega) (by simp) ?_; intro A' N c' w1 ho1 _ hb1 _)
    go_ret
    exact ⟨_, _, _, rfl, by simpa using ho1, (Below.alloc (Below.refl _ _) (Nat.le_refl _) _).trans hb1⟩

theorem i64ty : Ty1 Try.prog 75 3 (.int .i64 0) 8 :=
  ⟨Try.underlying75, by
    have h : (Try.prog.info? 3).map (fun i => (i.zero, i.size, i.bytes)) = some (some (.int .i64 0), 1, 8) := by kernel_rfl
    obtain ⟨i, h1, h2, h3, h4⟩ := info_parts h
    exact ⟨i, h1, h2, h3, h4⟩, rfl⟩
end Go.Proofs.Ytnmifaohmafobaa.lib
