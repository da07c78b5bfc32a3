/- The table that the statements take; slices.Clone and slices.Equal over bytes. -/
import Derived.Test.YtjmgokjflfhohaaCRbJ
import Derived.BigQuiet
namespace Go.Proofs.Ytjmgokjflfhohaa.rb
open Go.RowKit Mem
set_option linter.unusedVariables false
variable {w w' : World} {b p : Nat} {d s : Int} {A F : Nat → Nat}
theorem u8ty : Ty1 Try.prog 23 5 (.int .u8 0) 1 :=
  ⟨Try.underlying23, by
    have h : (Try.prog.info? 5).map (fun i => (i.zero, i.size, i.bytes)) = some (some (.int .u8 0), 1, 1) := by kernel_rfl
    obtain ⟨i, h1, h2, h3, h4⟩ := info_parts h
    exact ⟨i, h1, h2, h3, h4⟩, rfl⟩
/-- the polynomial that the statements take -/
def tq (p : Nat) : Nat := if goodB p = true then p else 2147483657
theorem tq_good (p : Nat) : goodB (tq p) = true := by
  unfold tq
  by_cases h : goodB p = true
  · rw [if_pos h]; exact h
  · rw [if_neg h]; exact tri_good
theorem good_log {p : Nat} (h : goodB p = true) : p.log2 = 31 := by
  unfold goodB at h
  rw [Bool.and_eq_true, decide_eq_true_eq] at h
  have h1 := h.1
  by_cases z : p = 0
  · subst z; rw [dg_zero] at h1; omega
  · rw [dg_pos z] at h1; omega
theorem log31_lt {p : Nat} (h : p.log2 = 31) : p < 4294967296 := by
  have := Nat.lt_log2_self (n := p)
  rw [h] at this
  exact Nat.lt_of_lt_of_le this (by decide)
/-- a fresh table stands at the block ahead of which there were so many -/
def TablePost (p : Nat) (w : World) (e : Ending) (w' : World) : Prop := e = .returned (.tuple #[.pointer (some ⟨w.heap.size, 0, none⟩), .int .u64 (tq p : Nat)]) ∧ w' = w.alloc (.cells (freshT (tq p)) 75)
theorem table_any (p : Nat) (w : World) (hp : p < 18446744073709551616) :
    Calls Try.prog 13 #[.int .u64 (p : Nat)] w (TablePost p w) := by
  by_cases h : goodB p = true
  · have ht : tq p = p := if_pos h
    unfold TablePost
    rw [ht]
    have H := Lib.hid (fun w => new_good p w hp h)
    clear h ht
    go_enter Try.func13, Try.ntmps13
    go_wp2_with (go_at_call 26; refine (H.out _).mono ?_; rintro e w1 ⟨rfl, rfl⟩)
    go_ret2
    exact ⟨rfl, rfl⟩
  · have ht : tq p = 2147483657 := if_neg h
    unfold TablePost
    rw [ht]
    have H := Lib.hid (fun w => new_bad p w hp (by simpa using h))
    have H2 := Lib.hid (fun w => new_good 2147483657 w (by decide) tri_good)
    clear h ht
    go_enter Try.func13, Try.ntmps13
    go_wp2_with fail
    refine (H.out _).mono ?_
    rintro e w1 ⟨rfl, rfl⟩
    go_wp2_with fail
    refine (H2.out _).mono ?_
    rintro e w1 ⟨rfl, rfl⟩
    go_wp2_with fail
    go_ret2
    exact ⟨rfl, rfl⟩
theorem below_drewN {B : Nat} {w w1 : World} (h : Below B w w1) (q : Nat) : Below B w (w1.drewN q) := ⟨h.os, h.tape, h.output, h.size, h.block⟩
theorem TabB.below {B : Nat} (h : TabB w b p d s A F) (hb : Below B w w') (hB : b < B) : TabB w' b p d s A F :=
  ⟨by rw [hb.cell hB]; exact h.c0, by rw [hb.cell hB]; exact h.c1, by rw [hb.cell hB]; exact h.c2, fun i hi => by rw [hb.cell hB]; exact h.ab i hi, fun i hi => by rw [hb.cell hB]; exact h.fi i hi, fun o => by rw [hb.frozen hB]; exact h.fz o⟩
/-- what a call leaves that answers new bytes -/
def Made (w : World) (l : List UInt8) (e : Ending) (w' : World) : Prop := ∃ A N c, e = .returned (.slice A N c) ∧ Ow w' w.heap.size 5 A N c (bv l) ∧ Below w.heap.size w w'
theorem clone_any (A : Option Addr) (n c B : Nat) (l : List UInt8) (w : World) (h : Rd w B A n (bv l)) (hB : B ≤ w.heap.size) (hn : n ≤ 140737488351232) :
    Calls Try.prog 14 #[.slice A n c] w (Made w l) := by
  have hnil := fun (a : Option Addr) => Lib.run_eql_slice_nil w _ _ a n c 0 0 Try.underlying23
  cases A with
  | none =>
    have h0 : l = [] := by
      rcases Nat.eq_zero_or_pos n with h0 | h0
      · exact List.eq_nil_of_length_eq_zero (by rw [← bv_len, h.len, h0])
      · obtain ⟨b, off, e, _⟩ := h.addr h0; cases e
    subst h0
    have Hh := Lib.hid h
    clear h
    go_enter Try.func14, Try.ntmps14
    go_wp2
    go_ret
    exact ⟨_, _, _, rfl, Ow.nil w _ _, Below.refl _ _⟩
  | some ad =>
    have hb : Below B w (w.alloc (.cells #[] 5)) := (Below.refl _ _).alloc hB _
    have h2 := h.below hb (Nat.le_refl _)
    have ho := Ow.lit w 5 [] (base := w.heap.size) (Nat.le_refl _) (by simp [maxLen])
    go_enter Try.func14, Try.ntmps14
    go_wp2_with (at_builtin; refine wp_app u8ty rfl (.tmp 5) (.tmp 6) rfl rfl rfl ho h2 (bv_one l) (by simp; omega) (by simp; omega) (by simp) ?_; intro A' N c' w1 ho1 _ hb1 _)
    go_ret
    exact ⟨_, _, _, rfl, by simpa using ho1, (Below.alloc (Below.refl _ _) (Nat.le_refl _) _).trans hb1⟩
end Go.Proofs.Ytjmgokjflfhohaa.rb
