/- Contracts of seq's calls and of the document's over numbers. -/
import Derived.Test.YtbkhhcjpcobkkaaRows
import Derived.Test.YtbkhhcjpcobkkaaMem
import Derived.Test.YtbkhhcjpcobkkaaSeqMath
import Derived.ProofKit
import Derived.OpenShut
import Derived.ChangeOld
namespace Go.Proofs.Ytbkhhcjpcobkkaa.sq
open Go.RowKit Mem
set_option linter.unusedVariables false
theorem ret_int {k : IntKind} {a b : Int} (h : a = b) : Ending.returned (.int k a) = .returned (.int k b) := by rw [h]
theorem ret_bool {a b : Bool} (h : a = b) : Ending.returned (.bool a) = .returned (.bool b) := by rw [h]

theorem add_any (a n : Int) (w : World) :
    Calls Try.prog 13 #[.int .u32 a, .int .i64 n] w fun e w' => e = .returned (.int .u32 (adz a n)) ∧ w = w' := by
  go_enter Try.func13, Try.ntmps13
  go_wp2_with fail
  go_ret
  exact ⟨ret_int (by unfold adz; omega), rfl⟩
theorem diff_any (a b : Int) (w : World) :
    Calls Try.prog 15 #[.int .u32 a, .int .u32 b] w fun e w' => e = .returned (.int .i64 (dif a b)) ∧ w = w' := by
  go_enter Try.func15, Try.ntmps15
  go_wp2_with fail
  go_ret
  exact ⟨ret_int (by show wrap64 (wrap32 ((a - b) % 4294967296)) = _; unfold dif wrap64 wrap32; omega), rfl⟩
theorem less_any (a b : Int) (w : World) :
    Calls Try.prog 18 #[.int .u32 a, .int .u32 b] w fun e w' => e = .returned (.bool (lessB a b)) ∧ w = w' := by
  go_enter Try.func18, Try.ntmps18
  go_wp2_with fail
  refine (diff_any _ _ _).mono ?_
  rintro e w1 ⟨rfl, rfl⟩
  go_wp2_with fail
  go_ret
  exact ⟨rfl, rfl⟩
theorem in_any (x f s : Int) (w : World) (s0 : -9223372036854775808 ≤ s) (s1 : s ≤ 9223372036854775807) :
    Calls Try.prog 20 #[.int .u32 x, .int .u32 f, .int .i64 s] w fun e w' => e = .returned (.bool (inB x f s)) ∧ w = w' := by
  go_enter Try.func20, Try.ntmps20
  go_wp2_with fail
  go_ret
  exact ⟨rfl, rfl⟩
theorem mod_any (n : Int) (w : World) (s0 : -9223372036854775808 ≤ n) (s1 : n ≤ 9223372036854775807) :
    Calls Try.prog 29 #[.int .i64 n] w fun e w' => e = .returned (.int .i64 (n % 4294967296)) ∧ w = w' := by
  have ht : n.tmod 4294967296 = if n < 0 then - ((-n) % 4294967296) else n % 4294967296 := by
    by_cases h : n < 0
    · rw [if_pos h]
      obtain ⟨m, rfl⟩ : ∃ m, n = -m := ⟨-n, by omega⟩
      rw [Int.neg_tmod, Int.tmod_eq_emod_of_nonneg (by omega), Int.neg_neg]
    · rw [if_neg h, Int.tmod_eq_emod_of_nonneg (by omega)]
  have HT := Lib.hid ht
  clear ht
  go_enter Try.func29, Try.ntmps29
  go_wp2_with fail
  · rename_i h
    go_ret
    refine ⟨ret_int (?_ : wrap64 (n.tmod 4294967296 + 4294967296) = _), rfl⟩
    rw [HT.out] at h ⊢
    unfold wrap64
    split at h <;> rename_i hn
    · rw [if_pos hn]; omega
    · rw [if_neg hn]; omega
  · rename_i h
    go_ret
    refine ⟨ret_int (?_ : n.tmod 4294967296 = _), rfl⟩
    rw [HT.out] at h ⊢
    split at h <;> rename_i hn
    · rw [if_pos hn]; omega
    · rw [if_neg hn]
theorem radd_any (a n : Int) (w : World) (h0 : 0 ≤ a) (h1 : a < 4294967296) (s0 : -9223372036854775808 ≤ n) (s1 : n ≤ 9223372036854775807) :
    Calls Try.prog 14 #[.int .u32 a, .int .i64 n] w fun e w' => e = .returned (.int .u32 (adz a n)) ∧ w = w' := by
  go_enter Try.func14, Try.ntmps14
  go_wp2_with fail
  refine (mod_any n _ s0 s1).mono ?_
  rintro e w1 ⟨rfl, rfl⟩
  go_wp2_with fail
  refine (mod_any _ _ (by omega) (by omega)).mono ?_
  rintro e w1 ⟨rfl, rfl⟩
  go_wp2_with fail
  go_ret
  exact ⟨ret_int (by unfold adz; omega), rfl⟩
theorem rdiff_any (a b : Int) (w : World) (h0 : 0 ≤ a) (h1 : a < 4294967296) (k0 : 0 ≤ b) (k1 : b < 4294967296) :
    Calls Try.prog 16 #[.int .u32 a, .int .u32 b] w fun e w' => e = .returned (.int .i64 (dif a b)) ∧ w = w' := by
  go_enter Try.func16, Try.ntmps16
  go_wp2_with fail
  refine (mod_any _ _ (by omega) (by omega)).mono ?_
  rintro e w1 ⟨rfl, rfl⟩
  go_wp2_with fail
  all_goals go_ret
  all_goals exact ⟨ret_int (by unfold dif; omega), rfl⟩
theorem rless_any (a b : Int) (w : World) (h0 : 0 ≤ a) (h1 : a < 4294967296) (k0 : 0 ≤ b) (k1 : b < 4294967296) :
    Calls Try.prog 19 #[.int .u32 a, .int .u32 b] w fun e w' => e = .returned (.bool (lessB a b)) ∧ w = w' := by
  go_enter Try.func19, Try.ntmps19
  go_wp2_with fail
  refine (rdiff_any _ _ _ h0 h1 k0 k1).mono ?_
  rintro e w1 ⟨rfl, rfl⟩
  go_wp2_with fail
  go_ret
  exact ⟨rfl, rfl⟩
theorem rin_any (x f s : Int) (w : World) (h0 : 0 ≤ x) (h1 : x < 4294967296) (k0 : 0 ≤ f) (k1 : f < 4294967296) :
    Calls Try.prog 21 #[.int .u32 x, .int .u32 f, .int .i64 s] w fun e w' => e = .returned (.bool (inB x f s)) ∧ w = w' := by
  go_enter Try.func21, Try.ntmps21
  go_wp2_with fail
  refine (mod_any _ _ (by omega) (by omega)).mono ?_
  rintro e w1 ⟨rfl, rfl⟩
  go_wp2_with fail
  go_ret
  exact ⟨rfl, rfl⟩
end Go.Proofs.Ytbkhhcjpcobkkaa.sq
