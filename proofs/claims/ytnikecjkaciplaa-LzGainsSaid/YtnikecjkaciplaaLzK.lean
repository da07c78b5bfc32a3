/- The examples of layer 7's laws come out true. -/
import Derived.Test.YtnikecjkaciplaaLzB
import Derived.Test.YtnikecjkaciplaaLzJ
import Derived.Lib.SlBytesConst
namespace Go.Proofs.Ytnikecjkaciplaa.lz
open Go.RowKit Go.Shelf Mem OM LM oct
set_option linter.unusedVariables false
attribute [local go_sem] Oper.semAt_some
theorem aw1 : reB [0, 97, 131, 1] 7 = ([97, 97, 97, 97, 97, 97, 97], 0) := by decide +kernel
theorem aw2 : reB [0, 97, 131, 1] 6 = ([], 71) := by decide +kernel
theorem aw3 : shB [97, 97, 97, 97, 97, 97, 97] = [0, 97, 131, 1] := by decide +kernel
theorem rd_lit (w : World) (l : List UInt8) (n : Nat) (hn : l.length = n) (m1 m2 : Nat) (cs : Array Value) (hc : cs = (bv l).toArray) : Rd (w.alloc (.cells cs 5 (m1, m2))) (w.heap.size + 1) (some ⟨w.heap.size, 0, none⟩) n (bv l) := by
  subst hc
  refine ⟨by rw [bv_len, hn], fun _ => ⟨_, 0, rfl, by omega, fun i hi => ?_⟩⟩
  rw [Nat.zero_add, cell_of_row _ _ i (bv l).toArray 5 (m1, m2) (heap_alloc_new w _)]
  simp
theorem awake_any (w : World) :
    Calls Try.prog 11 #[] w fun e w' => e = .returned (.bool true) ∧ Below w.heap.size w w' := by
  have q1 : ((bs [0, 97, 131, 1]).toList == [0, 97, 131, 1]) = true := by rw [bs_toList]; decide
  have q2 : ((bs [97, 97, 97, 97, 97, 97, 97]).toList == [97, 97, 97, 97, 97, 97, 97]) = true := by rw [bs_toList]; decide
  go_enter Try.func11, Try.ntmps11
  have kc := fun (w : World) (C : Array Value) (n c : Nat) => Lib.run_convert_bytes_const (P := Try.prog) w 22 5 C n c Try.underlying22 Try.underlying5
  go_wp2_with fail
  refine (restore_any _ 4 4 (w.heap.size + 1) [0, 97, 131, 1] 7 _ (rd_lit w [0, 97, 131, 1] 4 rfl 4 5 _ rfl) (by simp) (by omega) (by omega)).mono ?_
  rintro e w1 ⟨A1, N1, c1, rfl, ho1, hb1⟩
  rw [aw1] at ho1 ⊢
  have hbw1 : Below w.heap.size w w1 := ((Below.refl _ w).alloc (Nat.le_refl _) _).trans (hb1.mono (by simp))
  simp only at ho1 ⊢
  clear hb1
  go_wp2_with fail
  refine (restore_any _ 4 4 (w1.heap.size + 1) [0, 97, 131, 1] 6 _ (rd_lit w1 [0, 97, 131, 1] 4 rfl 4 5 _ rfl) (by simp) (by omega) (by omega)).mono ?_
  rintro e w2 ⟨A2, N2, c2, rfl, ho2, hb2⟩
  rw [aw2] at ho2 ⊢
  simp only at ho2 ⊢
  have hbw2 : Below w1.heap.size w1 w2 := ((Below.refl _ w1).alloc (Nat.le_refl _) _).trans (hb2.mono (by simp))
  clear hb2 ho2
  go_wp2_with fail
  refine (shorten_any _ 7 7 (w2.heap.size + 1) [97, 97, 97, 97, 97, 97, 97] _ (rd_lit w2 [97, 97, 97, 97, 97, 97, 97] 7 rfl 7 8 _ rfl) (by simp) (Nat.le_refl _) (by omega)).mono ?_
  rintro e w3 ⟨A3, N3, c3, rfl, ho3, hb3⟩
  rw [aw3] at ho3
  have hbw3 : Below w2.heap.size w2 w3 := ((Below.refl _ w2).alloc (Nat.le_refl _) _).trans (hb3.mono (by simp))
  have r3 := run_string Try.underlying22 Try.underlying5 Try.underlying9 ho3.rd c3
  have r1 := run_string Try.underlying22 Try.underlying5 Try.underlying9 ((ho1.below hbw2 (Nat.le_refl _)).below hbw3 (Nat.le_refl _)).rd c1
  have HB := Lib.hid (hbw1.trans ((hbw2.trans (hbw3.mono hbw2.size)).mono hbw1.size))
  clear hbw1 hbw2 hbw3 hb3 ho1 ho3 kc
  go_wp2
  go_ret
  exact ⟨rfl, HB.out⟩
end Go.Proofs.Ytnikecjkaciplaa.lz
