/- Contracts of rabin's Mul and Gcd, and of the document's. -/
import Derived.Test.YtjmgokjflfhohaaCRbA
namespace Go.Proofs.Ytjmgokjflfhohaa.rb
open Go.RowKit Mem
set_option linter.unusedVariables false
/-- the product of two by a third -/
def ml (a b p : Nat) : Nat := if p = 0 ∨ 62 < p.log2 then 0 else md (cm b a) p
theorem ml_none {a b p : Nat} (h : p = 0 ∨ 62 < p.log2) : ml a b p = 0 := if_pos h
theorem ml_some {a b p : Nat} (h : ¬ (p = 0 ∨ 62 < p.log2)) : ml a b p = md (cm b a) p := if_neg h
theorem md_bound {a p : Nat} (hp : p ≠ 0) (h : p.log2 ≤ 62) : md a p < 4611686018427387904 := Nat.lt_of_lt_of_le (md_low hp a) (Nat.pow_le_pow_right (n := 2) (by decide) h)
theorem ml_step (r b a p : Nat) : md ((if b % 2 = 1 then r ^^^ a else r) ^^^ cm (b / 2) (md (2 * a) p)) p = md (r ^^^ cm b a) p := by
  rw [md_x, md_cm, cm_two, ← md_x, cm_eq b a]
  by_cases h : b % 2 = 1
  · rw [if_pos h, if_pos h, x_assoc]
  · rw [if_neg h, if_neg h, Nat.zero_xor]
theorem times_two {a : Nat} (h : a < 4611686018427387904) : IntKind.u64.wrap ((a : Int) * 2) = ((2 * a : Nat) : Int) := by rw [IntKind.wrap_u64]; omega
theorem mod_at {x y : Int} (a p : Nat) (w : World) (hx : x = (a : Nat)) (hy : y = (p : Nat)) (ha : a < 18446744073709551616) (hp : p < 18446744073709551616) :
    Calls Try.prog 46 #[.int .u64 x, .int .u64 y] w fun e w' => e = .returned (.int .u64 (md a p : Nat)) ∧ w = w' := by
  rw [hx, hy]; exact mod_any a p w ha hp
theorem mul_any (a b p : Nat) (w : World) (ha : a < 18446744073709551616) (hb : b < 18446744073709551616) (hp : p < 18446744073709551616) :
    Calls Try.prog 41 #[.int .u64 (a : Nat), .int .u64 (b : Nat), .int .u64 (p : Nat)] w fun e w' => e = .returned (.int .u64 (ml a b p : Nat)) ∧ w = w' := by
  by_cases c : p = 0
  · subst c
    rw [ml_none (Or.inl rfl)]
    go_enter Try.func41, Try.ntmps41
    go_wp2_with fail
    go_ret
    exact ⟨rfl, rfl⟩
  · have c1 : ¬ (p : Int) = 0 := by omega
    have c2 : ((p : Int) == 0) = false := by simp [c]
    have hd := dg_pos c
    by_cases d : 62 < p.log2
    · rw [ml_none (Or.inr d)]
      have d1 : (62 : Int) < dg p := by omega
      clear hd
      go_enter Try.func41, Try.ntmps41
      go_wp2_with (go_at_call 34; refine (deg_any _ _ (by omega)).mono ?_; rintro e w' ⟨rfl, rfl⟩)
      go_ret
      exact ⟨rfl, rfl⟩
    · rw [ml_some (by omega)]
      have d1 : ¬ (62 : Int) < dg p := by omega
      clear hd
      go_enter Try.func41, Try.ntmps41
      go_wp2_with (first | (go_at_call 34; refine (deg_any _ _ (by omega)).mono ?_; rintro e w' ⟨rfl, rfl⟩) | (go_at_call 46; refine (mod_any _ _ _ (by omega) (by omega)).mono ?_; rintro e w' ⟨rfl, rfl⟩))
      have hl : p.log2 ≤ 62 := by omega
      go_loop [0, 1, 7, 18, 19, 20, 21, 22, 23, 24, 25, 26, 27, 28, 29, 30, 31] (fun va vb vr _ _ _ _ _ _ _ _ _ _ _ _ _ _ => ∃ α β r : Nat, va = .int .u64 (α : Nat) ∧ vb = .int .u64 (β : Nat) ∧ vr = .int .u64 (r : Nat) ∧ Hid (α < 2 ^ p.log2) ∧ β < 18446744073709551616 ∧ Hid (r < 2 ^ p.log2) ∧ Hid (md (r ^^^ cm β α) p = md (cm b a) p)) (fun _ vb _ _ _ _ _ _ _ _ _ _ _ _ _ _ _ => (intOf vb).toNat)
      case atStart => exact ⟨md a p, b, 0, rfl, rfl, rfl, Lib.hid (md_low c a), hb, Lib.hid (Nat.two_pow_pos _), Lib.hid (by rw [Nat.zero_xor, md_cm])⟩
      case round =>
        obtain ⟨α, β, r, rfl, rfl, rfl, HA, hβ, HR, HQ⟩ := hrel
        by_cases z : β = 0
        · subst z
          go_wp2_with fail
          go_ret
          exact ⟨ret_int (by rw [← HQ.out, cm_zero, Nat.xor_zero, md_of_low HR.out]), rfl⟩
        · have z1 : ¬ (β : Int) = 0 := by omega
          have z2 : ((β : Int) != 0) = true := by simp [z]
          have bα : α < 4611686018427387904 := Nat.lt_of_lt_of_le HA.out (Nat.pow_le_pow_right (n := 2) (by decide) hl)
          have bR : r < 4611686018427387904 := Nat.lt_of_lt_of_le HR.out (Nat.pow_le_pow_right (n := 2) (by decide) hl)
          go_wp2_with (go_at_call 46; refine (mod_at (2 * α) p _ (by omega) rfl (by omega) (by omega)).mono ?_; rintro e w' ⟨rfl, rfl⟩)
          · rename_i hb _
            have c2 : β % 2 = 1 := by rw [and_one hβ] at hb; have := eq_of_beq hb; omega
            have hx : bits .xor .u64 (r : Int) (α : Int) = ((r ^^^ α : Nat) : Int) := u64_xor_nat _ _ (by omega) (by omega)
            have st := ml_step r β α p
            rw [if_pos c2] at st
            go_round
            case rel =>
              rw [hx]
              exact ⟨_, β / 2, _, rfl, by go_num, rfl, Lib.hid (md_low c _), by omega, Lib.hid (Nat.xor_lt_two_pow HR.out HA.out), Lib.hid (by rw [st, HQ.out])⟩
            case measure => simp only [intOf]; omega
          · rename_i hb _
            have c2 : ¬ β % 2 = 1 := by
              intro h
              rw [and_one hβ, h] at hb; simp at hb
            have st := ml_step r β α p
            rw [if_neg c2] at st
            go_round
            case rel => exact ⟨_, β / 2, _, rfl, by go_num, rfl, Lib.hid (md_low c _), by omega, HR, Lib.hid (by rw [st, HQ.out])⟩
            case measure => simp only [intOf]; omega
theorem div_step (b m : Nat) : b / 2 ^ m = (b / 2 ^ m % 2) ^^^ 2 * (b / 2 ^ (m + 1)) := by
  have h := split2 (b / 2 ^ m)
  rwa [Nat.div_div_eq_div_mul, ← Nat.pow_succ] at h
theorem ml_high {a b m p : Nat} : md (cm (b / 2 ^ m) a) p = (if b / 2 ^ m % 2 = 1 then md (2 * md (cm (b / 2 ^ (m + 1)) a) p) p ^^^ md a p else md (2 * md (cm (b / 2 ^ (m + 1)) a) p) p) := by
  rw [md_two]
  have h := div_step b m
  generalize b / 2 ^ m = x at *
  generalize b / 2 ^ (m + 1) = y at *
  by_cases c : x % 2 = 1
  · rw [if_pos c, h, c, cm_xl, cm_one, two_cm, md_x, x_comm]
  · rw [if_neg c, h, show x % 2 = 0 by omega, Nat.zero_xor, two_cm]
/-- the greatest divisor -/
def gd (a b : Nat) : Nat := if h : b = 0 then a else gd b (md a b)
termination_by b
decreasing_by
  have := md_low h a
  have := (deg_of h).1
  omega
theorem gd_zero (a : Nat) : gd a 0 = a := by rw [gd]; rfl
theorem gd_step {a b : Nat} (h : b ≠ 0) : gd a b = gd b (md a b) := by rw [gd, dif_neg h]
theorem md_less {a b : Nat} (h : b ≠ 0) : md a b < b := by
  have := md_low h a
  have := (deg_of h).1
  omega
theorem dg_md {a b : Nat} (h : b ≠ 0) : dg (md a b) < dg b := by
  rw [dg_pos h]
  rcases md_le_log (a := a) h with e | e
  · rw [e, dg_zero]; omega
  · by_cases z : md a b = 0
    · rw [z, dg_zero]; omega
    · rw [dg_pos z]; omega
theorem gcd_any (a b : Nat) (w : World) (ha : a < 18446744073709551616) (hb : b < 18446744073709551616) :
    Calls Try.prog 42 #[.int .u64 (a : Nat), .int .u64 (b : Nat)] w fun e w' => e = .returned (.int .u64 (gd a b : Nat)) ∧ w = w' := by
  go_enter Try.func42, Try.ntmps42
  go_wp2_with fail
  go_loop [0, 1, 5, 6, 7, 8, 9, 10] (fun va vb _ _ _ _ _ _ => ∃ α β : Nat, va = .int .u64 (α : Nat) ∧ vb = .int .u64 (β : Nat) ∧ α < 18446744073709551616 ∧ β < 18446744073709551616 ∧ Hid (gd α β = gd a b)) (fun _ vb _ _ _ _ _ _ => (intOf vb).toNat)
  case atStart => exact ⟨a, b, rfl, rfl, ha, hb, Lib.hid rfl⟩
  case round =>
    obtain ⟨α, β, rfl, rfl, hα, hβ, HQ⟩ := hrel
    by_cases z : β = 0
    · subst z
      go_wp2_with fail
      go_ret
      exact ⟨ret_int (by rw [← HQ.out, gd_zero]), rfl⟩
    · have z2 : ((β : Int) != 0) = true := by simp [z]
      have lt := md_less (a := α) z
      have st := Lib.hid (gd_step (a := α) z)
      go_wp2_with (go_at_call 46; refine (mod_any _ _ _ (by omega) (by omega)).mono ?_; rintro e w' ⟨rfl, rfl⟩)
      go_round
      case rel => exact ⟨β, _, rfl, rfl, hβ, by omega, Lib.hid (by rw [← st.out, HQ.out])⟩
      case measure => simp only [intOf]; omega
end Go.Proofs.Ytjmgokjflfhohaa.rb
