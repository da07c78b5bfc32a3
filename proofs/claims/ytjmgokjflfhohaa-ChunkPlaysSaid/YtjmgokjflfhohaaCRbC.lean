/- Contracts of rabin's Prime and New. -/
import Derived.Test.YtjmgokjflfhohaaCRbB
namespace Go.Proofs.Ytjmgokjflfhohaa.rb
open Go.RowKit Mem
set_option linter.unusedVariables false
/-- the test for a prime polynomial, as rounds -/
def primeF (p : Nat) : Nat → Nat → Bool
  | 0, _ => true
  | n + 1, q => if gd (ml q q p ^^^ 2) p = 1 then primeF p n (ml q q p) else false
def primeB (p : Nat) : Bool := if dg p < 1 ∨ 31 < dg p then false else primeF p (p.log2 / 2) 2
theorem ml_bound {a b p : Nat} (h : p < 18446744073709551616) : ml a b p < 18446744073709551616 := by
  by_cases c : p = 0 ∨ 62 < p.log2
  · rw [ml_none c]; decide
  · rw [ml_some c]
    have := md_bound (a := cm b a) (p := p) (by omega) (by omega)
    omega
theorem prime_any (p : Nat) (w : World) (hp : p < 18446744073709551616) :
    Calls Try.prog 35 #[.int .u64 (p : Nat)] w fun e w' => e = .returned (.bool (primeB p)) ∧ w = w' := by
  unfold primeB
  by_cases c : dg p < 1 ∨ 31 < dg p
  · rw [if_pos c]
    rcases c with c | c
    all_goals
      go_enter Try.func35, Try.ntmps35
      go_wp2_with (go_at_call 34; refine (deg_any _ _ (by omega)).mono ?_; rintro e w' ⟨rfl, rfl⟩)
    all_goals go_ret
    all_goals exact ⟨rfl, rfl⟩
  · rw [if_neg c]
    have c1 : ¬ dg p < 1 := by omega
    have c2 : ¬ 31 < dg p := by omega
    have c0 : p ≠ 0 := by intro h; subst h; rw [dg_zero] at c1; omega
    have hd := dg_pos c0
    obtain ⟨n, hn⟩ : ∃ n, p.log2 = n := ⟨_, rfl⟩
    rw [hn] at hd
    obtain ⟨r, hr⟩ : ∃ r, primeF p (n / 2) 2 = r := ⟨_, rfl⟩
    rw [hn, hr]
    have HP := Lib.hid hr
    clear hr
    have HB := fun a b => Lib.hid (ml_bound (a := a) (b := b) hp)
    go_enter Try.func35, Try.ntmps35
    go_wp2_with (go_at_call 34; refine (deg_any _ _ (by omega)).mono ?_; rintro e w' ⟨rfl, rfl⟩)
    obtain ⟨N, hN⟩ : ∃ N : Nat, N = n / 2 := ⟨_, rfl⟩
    rw [← hN] at HP
    have hNi : (n : Int) / 2 = (N : Int) := by omega
    rw [hNi]
    have hN2 : N < 100 := by omega
    clear hNi hN
    go_loop [4, 15, 16, 17, 18, 19, 20, 21, 22, 23, 24, 25, 26] (fun v4 v15 _ _ _ _ _ _ _ _ _ _ _ => ∃ q k : Nat, v4 = .int .u64 (q : Nat) ∧ v15 = .int .i64 (k : Nat) ∧ k ≤ N ∧ q < 18446744073709551616 ∧ Hid (primeF p (N - k) q = r)) (fun _ v _ _ _ _ _ _ _ _ _ _ _ => N - (intOf v).toNat)
    case atStart => exact ⟨2, 0, rfl, rfl, by omega, by omega, Lib.hid (by rw [Nat.sub_zero]; exact HP.out)⟩
    case round =>
      obtain ⟨q, k, rfl, rfl, hk, hq, HQ⟩ := hrel
      by_cases e : k < N
      · obtain ⟨m, hm⟩ : ∃ m, m = ml q q p := ⟨_, rfl⟩
        have st : primeF p (N - k) q = if gd (m ^^^ 2) p = 1 then primeF p (N - (k + 1)) m else false := by
          rw [show N - k = (N - (k + 1)) + 1 by omega, primeF, hm]
        have bm : m < 18446744073709551616 := by rw [hm]; exact (HB q q).out
        have hx : bits .xor .u64 (m : Int) 2 = ((m ^^^ 2 : Nat) : Int) := u64_xor_nat m 2 bm (by decide)
        have bx : m ^^^ 2 < 18446744073709551616 := Nat.xor_lt_two_pow (n := 64) bm (by decide)
        have HM : Calls Try.prog 41 #[.int .u64 (q : Nat), .int .u64 (q : Nat), .int .u64 (p : Nat)] w fun e w' => e = .returned (.int .u64 (m : Nat)) ∧ w = w' := by rw [hm]; exact mul_any q q p w hq hq hp
        have hgb : gd (m ^^^ 2) p < 18446744073709551616 ∨ True := Or.inr trivial
        by_cases g : gd (m ^^^ 2) p = 1
        · have HG : Calls Try.prog 42 #[.int .u64 (bits .xor .u64 (m : Int) 2), .int .u64 (p : Nat)] w fun e w' => e = .returned (.int .u64 1) ∧ w = w' := by
            rw [hx]
            have := gcd_any (m ^^^ 2) p w bx hp
            rwa [g] at this
          rw [if_pos g] at st
          have ST := Lib.hid st
          clear st g hgb hm hx
          go_wp2_with (first | (go_at_call 41; refine HM.mono ?_; rintro e w' ⟨rfl, rfl⟩) | (go_at_call 42; refine HG.mono ?_; rintro e w' ⟨rfl, rfl⟩))
          go_round
          case rel => exact ⟨m, k + 1, rfl, by go_num, by omega, bm, Lib.hid (by rw [← ST.out, HQ.out])⟩
          case measure => simp only [intOf]; omega
        · obtain ⟨G, hG⟩ : ∃ G, gd (m ^^^ 2) p = G := ⟨_, rfl⟩
          have HG : Calls Try.prog 42 #[.int .u64 (bits .xor .u64 (m : Int) 2), .int .u64 (p : Nat)] w fun e w' => e = .returned (.int .u64 (G : Nat)) ∧ w = w' := by
            rw [hx]
            have := gcd_any (m ^^^ 2) p w bx hp
            rwa [hG] at this
          rw [if_neg g] at st
          rw [hG] at g
          have g1 : ¬ (G : Int) = 1 := by omega
          have g2 : ((G : Int) != 1) = true := by rw [bne_iff_ne]; exact g1
          have ST := Lib.hid st
          clear st hgb hm hx hG
          go_wp2_with (first | (go_at_call 41; refine HM.mono ?_; rintro e w' ⟨rfl, rfl⟩) | (go_at_call 42; refine HG.mono ?_; rintro e w' ⟨rfl, rfl⟩))
          go_ret
          exact ⟨ret_bool (by rw [← HQ.out, ST.out]), rfl⟩
      · have HE : Hid (true = r) := Lib.hid (by rw [← HQ.out, show N - k = 0 by omega]; rfl)
        go_wp2_with fail
        go_ret
        exact ⟨ret_bool HE.out, rfl⟩
/-- a table's cells as New lays them -/
noncomputable def freshT (p : Nat) : Array Value := Try.zeroCells75.setIfInBounds 0 (.int .u64 (p : Nat))
/-- has it a table? -/
def goodB (p : Nat) : Bool := decide (dg p = 31) && primeB p
theorem new_good (p : Nat) (w : World) (hp : p < 18446744073709551616) (h : goodB p = true) :
    Calls Try.prog 26 #[.int .u64 (p : Nat)] w fun e w' => e = .returned (.tuple #[.pointer (some ⟨w.heap.size, 0, none⟩), .int .i64 0]) ∧ w' = w.alloc (.cells (freshT p) 75) := by
  unfold goodB at h
  rw [Bool.and_eq_true, decide_eq_true_eq] at h
  obtain ⟨c, hb⟩ := h
  go_enter Try.func26, Try.ntmps26
  go_wp2_with (first | (go_at_call 34; refine (deg_any _ _ (by omega)).mono ?_; rintro e w' ⟨rfl, rfl⟩) | (go_at_call 35; refine (prime_any _ _ (by omega)).mono ?_; rintro e w' ⟨rfl, rfl⟩))
  go_ret2
  exact ⟨rfl, rfl⟩
theorem new_bad (p : Nat) (w : World) (hp : p < 18446744073709551616) (h : goodB p = false) :
    Calls Try.prog 26 #[.int .u64 (p : Nat)] w fun e w' => e = .returned (.tuple #[.pointer none, .int .i64 50]) ∧ w = w' := by
  unfold goodB at h
  by_cases c : dg p = 31
  · have hb : primeB p = false := by simpa [c] using h
    go_enter Try.func26, Try.ntmps26
    go_wp2_with (first | (go_at_call 34; refine (deg_any _ _ (by omega)).mono ?_; rintro e w' ⟨rfl, rfl⟩) | (go_at_call 35; refine (prime_any _ _ (by omega)).mono ?_; rintro e w' ⟨rfl, rfl⟩))
    go_ret2
    exact ⟨rfl, rfl⟩
  · have c2 : (dg p != 31) = true := by simpa using c
    go_enter Try.func26, Try.ntmps26
    go_wp2_with (first | (go_at_call 34; refine (deg_any _ _ (by omega)).mono ?_; rintro e w' ⟨rfl, rfl⟩) | (go_at_call 35; refine (prime_any _ _ (by omega)).mono ?_; rintro e w' ⟨rfl, rfl⟩))
    go_ret2
    exact ⟨rfl, rfl⟩
end Go.Proofs.Ytjmgokjflfhohaa.rb
