/- The document's root. -/
import Derived.Test.YtagomegeeijfnaaDoorDgQ
namespace Go.Proofs.YtagomegeeijfnaaDoor.dg
open Go.RowKit Mem DM
set_option linter.unusedVariables false
def rt (y k : Nat) : Nat → Nat → Nat
  | 0, z => z
  | m + 1, z => if y * 65536 ^ (2 * k) < (z + 2 ^ m) ^ k then rt y k m z else rt y k m (z + 2 ^ m)
theorem rt_lt (y k : Nat) : ∀ m z, rt y k m z < z + 2 ^ m
  | 0, z => by simp [rt]
  | m + 1, z => by
    have h1 := rt_lt y k m z
    have h2 := rt_lt y k m (z + 2 ^ m)
    have e : 2 ^ (m + 1) = 2 * 2 ^ m := by rw [Nat.pow_succ]; omega
    unfold rt
    split <;> omega
set_option maxRecDepth 100000 in
set_option maxHeartbeats 2000000 in
theorem root_any (y k : Nat) (w : World) (hy : y < 65536) (hk : k ≤ 200) :
    Calls Tryd.prog 22 #[.int .i64 y, .int .i64 k] w fun e w' => e = .returned (.int .u32 ((rt y k 37 0 % 4294967296 : Nat) : Int)) ∧ Below w.heap.size w w' := by
  go_enter Tryd.func22, Tryd.ntmps22
  go_wp2_with fail
  go_loopw [5, 6] (fun v s wr => ∃ (z m : Nat), v = .int .i64 (z : Int) ∧ s = .int .i64 ((2 ^ m / 2 : Nat) : Int) ∧ z + 2 ^ m ≤ 137438953472 ∧ Below w.heap.size w wr ∧ Hid (rt y k m z = rt y k 37 0)) (fun _ s _ => (intOf s).toNat)
  case atStart => exact ⟨0, 37, rfl, rfl, by omega, Below.refl _ _, (rfl : rt y k 37 0 = rt y k 37 0)⟩
  case round =>
    obtain ⟨z, m, rfl, rfl, hz, hb, HV⟩ := hrel
    have hws := hb.size
    cases m with
    | zero =>
      have hv : z = rt y k 37 0 := HV.out
      have HVV := Lib.hid hv
      have hlt : ¬ (0 : Int) < ((2 ^ 0 / 2 : Nat) : Int) := by decide
      have hzz : z < 137438953472 := by omega
      clear hv
      rw [show ((2 ^ 0 / 2 : Nat) : Int) = 0 by decide]
      go_wp2_with fail
      go_ret
      refine ⟨?_, hb⟩
      rw [← HVV.out]
      congr 2
      try omega
    | succ m =>
      obtain ⟨P, hP⟩ : ∃ P, 2 ^ m = P := ⟨_, rfl⟩
      have e2 : 2 ^ (m + 1) / 2 = P := by rw [Nat.pow_succ, hP]; omega
      have hP0 : 0 < P := by rw [← hP]; exact Nat.pow_pos (by decide)
      have e3 : 2 ^ (m + 1) = 2 * P := by rw [Nat.pow_succ, hP]; omega
      rw [e2]
      rw [e3] at hz
      have hpi : (0 : Int) < (P : Int) := by omega
      have hab := above_any (z + P) y k wr (by omega) hy hk
      have hrt : rt y k (m + 1) z = if y * 65536 ^ (2 * k) < (z + P) ^ k then rt y k m z else rt y k m (z + P) := by
        show (if y * 65536 ^ (2 * k) < (z + 2 ^ m) ^ k then rt y k m z else rt y k m (z + 2 ^ m)) = _
        rw [hP]
      rw [show ((z + P : Nat) : Int) = (z : Int) + (P : Int) by omega] at hab
      have HB := Lib.hid hb
      have HP := Lib.hid hP
      have e4 : P / 2 = 2 ^ m / 2 := by rw [hP]
      have HE := Lib.hid e4
      clear hb hP e2 e3 e4
      by_cases ha : y * 65536 ^ (2 * k) < (z + P) ^ k
      · rw [if_pos ha] at hrt
        rw [decide_eq_true ha] at hab
        have HR := Lib.hid (hrt.symm.trans HV.out)
        have HAB := Lib.hid hab
        clear hrt hab ha
        go_wp2_with (go_at_call 26; refine HAB.out.mono ?_; rintro e w2 ⟨rfl, hb2⟩)
        exact ⟨⟨z, m, rfl, by rw [← HE.out]; go_num, by rw [HP.out]; omega, HB.out.trans (hb2.mono hws), HR.out⟩, by simp [intOf]; omega⟩
      · rw [if_neg ha] at hrt
        rw [decide_eq_false ha] at hab
        have HR := Lib.hid (hrt.symm.trans HV.out)
        have HAB := Lib.hid hab
        clear hrt hab ha
        go_wp2_with (go_at_call 26; refine HAB.out.mono ?_; rintro e w2 ⟨rfl, hb2⟩)
        exact ⟨⟨z + P, m, by go_num, by rw [← HE.out]; go_num, by rw [HP.out]; omega, HB.out.trans (hb2.mono hws), HR.out⟩, by simp [intOf]; omega⟩
end Go.Proofs.YtagomegeeijfnaaDoor.dg
