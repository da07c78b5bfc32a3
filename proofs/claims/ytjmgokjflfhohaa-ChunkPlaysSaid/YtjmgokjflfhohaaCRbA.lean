/- Contracts of rabin's Deg and Mod, and of the document's. -/
import Derived.Test.YtjmgokjflfhohaaRows
import Derived.Test.YtjmgokjflfhohaaMem
import Derived.Test.YtjmgokjflfhohaaRbMath
import Derived.Test.YtjmgokjflfhohaaCRbLen
import Derived.ProofKit
import Derived.OpenShut
import Derived.ChangeOld
import Derived.Laws.BitsAllLaws
namespace Go.Proofs.Ytjmgokjflfhohaa.rb
open Go.RowKit Mem
set_option linter.unusedVariables false
theorem ret_int {k : IntKind} {a b : Int} (h : a = b) : Ending.returned (.int k a) = .returned (.int k b) := by rw [h]
theorem ret_bool {a b : Bool} (h : a = b) : Ending.returned (.bool a) = .returned (.bool b) := by rw [h]
/-- the degree -/
def dg (a : Nat) : Int := if a = 0 then -1 else a.log2
theorem dg_zero : dg 0 = -1 := by decide
theorem dg_pos {a : Nat} (h : a ≠ 0) : dg a = a.log2 := by
  unfold dg
  rw [if_neg h]
theorem log_half {q : Nat} (h : 2 ≤ q) : q.log2 = (q / 2).log2 + 1 := by
  rw [Nat.log2_def, if_pos h]
theorem dg_half {a : Nat} (h : a ≠ 0) : dg a = dg (a / 2) + 1 := by
  rw [dg_pos h]
  by_cases c : 2 ≤ a
  · rw [dg_pos (by omega), log_half c]; omega
  · have : a = 1 := by omega
    subst this; decide
theorem dg_bits : ∀ (f a : Nat), a < 2 ^ f → (Lib.bitLenAux f a : Int) = dg a + 1
  | 0, a, h => by
    have : a = 0 := by simp at h; exact h
    subst this; decide
  | f + 1, a, h => by
    by_cases c : a = 0
    · subst c; simp [Lib.bitLenAux, dg_zero]
    · have := dg_bits f (a / 2) (by rw [Nat.pow_succ] at h; omega)
      rw [dg_half c, ← this]
      simp [Lib.bitLenAux, c]; omega
theorem dg_len {a : Nat} (h : a < 18446744073709551616) : (Lib.bitLen a : Int) = dg a + 1 := dg_bits 64 a h
theorem dg_lt {a : Nat} (h : a < 18446744073709551616) : -1 ≤ dg a ∧ dg a ≤ 63 := by
  by_cases c : a = 0
  · subst c; decide
  · rw [dg_pos c]
    have := (Nat.log2_lt c).2 (show a < 2 ^ 64 from h)
    omega
theorem dg_le {a p : Nat} (hp : p ≠ 0) : dg p ≤ dg a ↔ ¬ a < 2 ^ p.log2 := by
  rw [dg_pos hp]
  by_cases c : a = 0
  · subst c; rw [dg_zero]; have := Nat.two_pow_pos p.log2; omega
  · rw [dg_pos c, ← Nat.log2_lt c]; omega
theorem deg_any (a : Nat) (w : World) (h : a < 18446744073709551616) :
    Calls Try.prog 34 #[.int .u64 (a : Nat)] w fun e w' => e = .returned (.int .i64 (dg a)) ∧ w = w' := by
  have hb := dg_lt h
  have hd := dg_len h
  go_enter Try.func34, Try.ntmps34
  go_wp2_with fail
  refine (len64 _ _ (by omega) (by omega)).mono ?_
  rintro e w1 ⟨rfl, rfl⟩
  go_wp2_with fail
  go_ret
  exact ⟨ret_int (by omega), rfl⟩
theorem rdeg_any (p : Nat) (w : World) (h : p < 18446744073709551616) :
    Calls Try.prog 43 #[.int .u64 (p : Nat)] w fun e w' => e = .returned (.int .i64 (dg p)) ∧ w = w' := by
  go_enter Try.func43, Try.ntmps43
  go_wp2_with fail
  go_loop [0, 3, 4, 5, 6, 7, 8, 9] (fun v n _ _ _ _ _ _ => ∃ (q : Nat) (d : Int), v = .int .u64 (q : Nat) ∧ n = .int .i64 d ∧ q ≤ p ∧ d + dg q + 1 = dg p) (fun v _ _ _ _ _ _ _ => (intOf v).toNat)
  case atStart => exact ⟨p, -1, rfl, rfl, Nat.le_refl _, by omega⟩
  case round =>
    obtain ⟨q, d, rfl, rfl, hq, hd⟩ := hrel
    have hl := dg_lt h
    have hm := dg_lt (show q < 18446744073709551616 by omega)
    by_cases c : q = 0
    · subst c
      rw [dg_zero] at hd
      go_wp2_with fail
      go_ret
      exact ⟨ret_int (by omega), rfl⟩
    · have c1 : (0 : Int) < (q : Int) := by omega
      have hh := dg_half c
      go_wp2_with fail
      go_round
      case rel => exact ⟨q / 2, d + 1, by go_num, by go_num, by omega, by omega⟩
      case measure => simp [intOf]; omega
theorem dg_nat {q p : Nat} (hp : p ≠ 0) (h : ¬ q < 2 ^ p.log2) : dg q - dg p = ((q.log2 - p.log2 : Nat) : Int) := by
  have c : q ≠ 0 := by have := Nat.two_pow_pos p.log2; omega
  rw [dg_pos hp, dg_pos c]
  have : ¬ q.log2 < p.log2 := by rw [Nat.log2_lt c]; exact h
  omega
theorem mod_step {q p : Nat} (hp : p ≠ 0) (h : ¬ q < 2 ^ p.log2) : (q ^^^ p * 2 ^ (q.log2 - p.log2)) < q ∧ md (q ^^^ p * 2 ^ (q.log2 - p.log2)) p = md q p ∧ p * 2 ^ (q.log2 - p.log2) < 2 ^ (q.log2 + 1) := by
  have c : q ≠ 0 := by have := Nat.two_pow_pos p.log2; omega
  have hl : ¬ q.log2 < p.log2 := by rw [Nat.log2_lt c]; exact h
  have d := deg_of hp
  have e := deg_of c
  have hk : 2 ^ q.log2 = 2 ^ p.log2 * 2 ^ (q.log2 - p.log2) := by rw [← Nat.pow_add]; congr 1; omega
  have hk1 : 2 ^ (q.log2 + 1) = 2 ^ (p.log2 + 1) * 2 ^ (q.log2 - p.log2) := by rw [← Nat.pow_add]; congr 1; omega
  have l1 : 2 ^ q.log2 ≤ p * 2 ^ (q.log2 - p.log2) := by rw [hk]; exact Nat.mul_le_mul_right _ d.1
  have l2 : p * 2 ^ (q.log2 - p.log2) < 2 ^ (q.log2 + 1) := by rw [hk1]; exact Nat.mul_lt_mul_of_pos_right d.2 (Nat.two_pow_pos _)
  refine ⟨Nat.lt_of_lt_of_le (top_xx e.1 e.2 l1 l2) e.1, md_eq_of (cong_add q _), l2⟩
theorem xor_wrap {q p k : Nat} (hq : q < 18446744073709551616) (h : p * 2 ^ k < 18446744073709551616) : bits .xor .u64 (q : Int) (IntKind.u64.wrap ((p : Int) * 2 ^ k)) = ((q ^^^ p * 2 ^ k : Nat) : Int) := by
  have e : IntKind.u64.wrap ((p : Int) * 2 ^ k) = ((p * 2 ^ k : Nat) : Int) := by
    have e1 : (p : Int) * 2 ^ k = ((p * 2 ^ k : Nat) : Int) := by simp
    rw [e1, IntKind.wrap_u64]; omega
  rw [e, u64_xor_nat _ _ hq h]
theorem and_one {x : Nat} (h : x < 18446744073709551616) : bits .and .u64 (x : Int) 1 = ((x % 2 : Nat) : Int) := by
  rw [show (1 : Int) = ((1 : Nat) : Int) from rfl, u64_and_nat _ _ h (by decide), Nat.and_one_is_mod]
theorem div_pow (x m : Nat) : (x : Int) / 2 ^ m = ((x / 2 ^ m : Nat) : Int) := by simp
theorem bit_is {q m : Nat} (hq : q < 18446744073709551616) : (bits .and .u64 ((q : Int) / 2 ^ m) 1 == 1) = decide (q / 2 ^ m % 2 = 1) := by
  rw [div_pow, and_one (Nat.lt_of_le_of_lt (Nat.div_le_self _ _) hq)]
  by_cases h : q / 2 ^ m % 2 = 1
  · rw [h]; simp
  · have : ((q / 2 ^ m % 2 : Nat) : Int) ≠ 1 := by omega
    rw [decide_eq_false h]; simpa using this
theorem bit_top {q m : Nat} (hq : q < 18446744073709551616) (h : q < 2 ^ (m + 1)) : (bits .and .u64 ((q : Int) / 2 ^ m) 1 == 1) = decide (2 ^ m ≤ q) := by
  rw [bit_is hq]
  have p := Nat.two_pow_pos m
  have l : q / 2 ^ m < 2 := by rw [Nat.div_lt_iff_lt_mul p]; rw [Nat.pow_succ] at h; omega
  by_cases c : 2 ^ m ≤ q
  · have : 0 < q / 2 ^ m := Nat.div_pos c p
    rw [decide_eq_true c, decide_eq_true (by omega)]
  · have : q / 2 ^ m = 0 := Nat.div_eq_of_lt (by omega)
    rw [decide_eq_false c, decide_eq_false (by omega)]
theorem mod_any (a p : Nat) (w : World) (ha : a < 18446744073709551616) (hp : p < 18446744073709551616) :
    Calls Try.prog 46 #[.int .u64 (a : Nat), .int .u64 (p : Nat)] w fun e w' => e = .returned (.int .u64 (md a p : Nat)) ∧ w = w' := by
  by_cases c : p = 0
  · subst c
    rw [md_none]
    go_enter Try.func46, Try.ntmps46
    go_wp2_with fail
    go_ret
    exact ⟨rfl, rfl⟩
  · have c1 : ¬ (p : Int) = 0 := by omega
    have c2 : ((p : Int) == 0) = false := by simp [c]
    go_enter Try.func46, Try.ntmps46
    go_wp2_with fail
    go_loop [0, 8, 9, 10, 11, 12, 13, 14, 15, 16, 17, 18, 19, 20, 21] (fun v _ _ _ _ _ _ _ _ _ _ _ _ _ _ => ∃ q : Nat, v = .int .u64 (q : Nat) ∧ q < 18446744073709551616 ∧ Hid (md q p = md a p)) (fun v _ _ _ _ _ _ _ _ _ _ _ _ _ _ => (intOf v).toNat)
    case atStart => exact ⟨a, rfl, ha, Lib.hid rfl⟩
    case round =>
      obtain ⟨q, rfl, hq, HQ⟩ := hrel
      by_cases d : q < 2 ^ p.log2
      · have d1 : ¬ dg p ≤ dg q := by rw [dg_le c]; exact fun h => h d
        go_wp2_with (go_at_call 34; refine (deg_any _ _ (by omega)).mono ?_; rintro e w' ⟨rfl, rfl⟩)
        go_ret
        exact ⟨ret_int (by rw [← HQ.out, md_of_low d]), rfl⟩
      · have d1 : dg p ≤ dg q := by rw [dg_le c]; exact d
        have st := mod_step c d
        have sn := dg_nat c d
        have s0 := dg_lt hq
        have s1 := dg_lt hp
        obtain ⟨k, hk⟩ : ∃ k, k = q.log2 - p.log2 := ⟨_, rfl⟩
        rw [← hk] at st sn
        go_wp2_with (go_at_call 34; refine (deg_any _ _ (by omega)).mono ?_; rintro e w' ⟨rfl, rfl⟩)
        have hb : p * 2 ^ k < 18446744073709551616 := by
          have : q.log2 + 1 ≤ 64 := by
            have hc : q ≠ 0 := by omega
            have := (Nat.log2_lt hc).2 (show q < 2 ^ 64 from hq)
            omega
          exact Nat.lt_of_lt_of_le st.2.2 (Nat.pow_le_pow_right (n := 2) (by decide) this)
        go_round
        case rel =>
          rw [← hk, xor_wrap hq hb]
          exact ⟨_, rfl, by omega, Lib.hid (by rw [st.2.1, HQ.out])⟩
        case measure =>
          rw [← hk, xor_wrap hq hb]
          simp only [intOf, Int.toNat_natCast]
          exact st.1
end Go.Proofs.Ytjmgokjflfhohaa.rb
