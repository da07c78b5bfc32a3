/- The document's numbers of many digits: more. -/
import Derived.Test.YtagomegeeijfnaaDoorDgN
namespace Go.Proofs.YtagomegeeijfnaaDoor.dg
open Go.RowKit Mem DM
set_option linter.unusedVariables false
/-- what n digits to the base 65536 make -/
def vN (f : Nat → Nat) : Nat → Nat
  | 0 => 0
  | n + 1 => vN f n + f n * 65536 ^ n
theorem vN_lt (f : Nat → Nat) (h : ∀ q, f q < 65536) : ∀ n, vN f n < 65536 ^ n
  | 0 => by simp [vN]
  | n + 1 => by
    have ih := vN_lt f h n
    have := h n
    show vN f n + f n * 65536 ^ n < 65536 ^ (n + 1)
    have e : 65536 ^ (n + 1) = 65535 * 65536 ^ n + 65536 ^ n := by rw [Nat.pow_succ]; omega
    have e2 : f n * 65536 ^ n ≤ 65535 * 65536 ^ n := Nat.mul_le_mul_right _ (by omega)
    omega
theorem vN_top (f g : Nat → Nat) (hf : ∀ q, f q < 65536) (i : Nat) (h : f i < g i) : vN f (i + 1) < vN g (i + 1) := by
  have := vN_lt f hf i
  show vN f i + f i * 65536 ^ i < vN g i + g i * 65536 ^ i
  have e2 : (f i + 1) * 65536 ^ i ≤ g i * 65536 ^ i := Nat.mul_le_mul_right _ h
  rw [Nat.add_mul, Nat.one_mul] at e2
  omega
theorem vN_same (f g : Nat → Nat) (i : Nat) : ∀ d, (∀ q, i ≤ q → q < i + d → f q = g q) → vN f (i + d) + vN g i = vN g (i + d) + vN f i
  | 0, _ => by rw [Nat.add_zero, Nat.add_comm]
  | d + 1, h => by
    have ih := vN_same f g i d (fun q h1 h2 => h q h1 (by omega))
    have e := h (i + d) (by omega) (by omega)
    show vN f (i + d) + f (i + d) * 65536 ^ (i + d) + vN g i = vN g (i + d) + g (i + d) * 65536 ^ (i + d) + vN f i
    rw [e]
    omega
def dig (l : List Nat) (q : Nat) : Nat := l.getD q 0
theorem dig_lt {l : List Nat} (h : ∀ x ∈ l, x < 65536) (q : Nat) : dig l q < 65536 := by
  unfold dig
  rw [List.getD_eq_getElem?_getD]
  rcases Nat.lt_or_ge q l.length with h1 | h1
  · rw [List.getElem?_eq_getElem h1]; exact h _ (List.getElem_mem h1)
  · rw [List.getElem?_eq_none h1]; simp
theorem dig_at {l : List Nat} {q : Nat} (h : q < l.length) : l[q] = dig l q := by
  unfold dig
  rw [List.getD_eq_getElem?_getD, List.getElem?_eq_getElem h]
  rfl
theorem dig_no {l : List Nat} {q : Nat} (h : l.length ≤ q) : dig l q = 0 := by
  unfold dig
  rw [List.getD_eq_getElem?_getD, List.getElem?_eq_none h]
  rfl
/-- which of two numbers is more, by the highest digit in which they differ -/
theorem more_math (l r : List Nat) (hl : ∀ x ∈ l, x < 65536) (hr : ∀ x ∈ r, x < 65536) (i M : Nat) (hi : i < M) (h : ∀ q, i + 1 ≤ q → q < M → dig l q = dig r q) (hne : dig l i ≠ dig r i) :
    decide (dig r i < dig l i) = decide (vN (dig r) M < vN (dig l) M) := by
  have e := vN_same (dig l) (dig r) (i + 1) (M - (i + 1)) (fun q h1 h2 => h q h1 (by omega))
  rw [show i + 1 + (M - (i + 1)) = M by omega] at e
  rcases Nat.lt_or_gt_of_ne hne with h1 | h1
  · have := vN_top (dig l) (dig r) (dig_lt hl) i h1
    rw [decide_eq_false (by omega), decide_eq_false (by omega)]
  · have := vN_top (dig r) (dig l) (dig_lt hr) i h1
    rw [decide_eq_true h1, decide_eq_true (by omega)]
theorem more_none (l r : List Nat) (M : Nat) (h : ∀ q, 0 ≤ q → q < M → dig l q = dig r q) : vN (dig l) M = vN (dig r) M := by
  have e := vN_same (dig l) (dig r) 0 M (fun q h1 h2 => h q h1 (by omega))
  rw [Nat.zero_add] at e
  simpa [vN] using e
set_option maxRecDepth 100000 in
set_option maxHeartbeats 2000000 in
theorem more_any (A1 A2 : Option Addr) (n c m d B : Nat) (l r : List Nat) (w : World) (h1 : Rd w B A1 n (nv l)) (h2 : Rd w B A2 m (nv r)) (hl : ∀ x ∈ l, x < 65536) (hr : ∀ x ∈ r, x < 65536) (hn : n ≤ 1048576) (hm : m ≤ 1048576) :
    Calls Tryd.prog 29 #[.slice A1 n c, .slice A2 m d] w fun e w' => e = .returned (.bool (decide (vN (dig r) (max n m) < vN (dig l) (max n m)))) ∧ w = w' := by
  obtain ⟨M, hM⟩ : ∃ M : Nat, max n m = M := ⟨_, rfl⟩
  have hmax : max (n : Int) (m : Int) = (M : Int) := by omega
  have hM2 : M ≤ 1048576 := by omega
  have HM := Lib.hid hM
  rw [hM]
  have HL := Lib.hid h1.len
  have HR := Lib.hid h2.len
  have HX := Lib.hid (And.intro hl hr)
  obtain ⟨ans, hans⟩ : ∃ b, decide (vN (dig r) M < vN (dig l) M) = b := ⟨_, rfl⟩
  have HA := Lib.hid hans
  rw [hans]
  clear hl hr hM hans
  go_enter Tryd.func29, Tryd.ntmps29
  go_wp2_with fail
  go_loop [6, 7, 8] (fun v _ _ => ∃ k : Nat, v = .int .i64 ((k : Int) - 1) ∧ k ≤ M ∧ Hid (∀ q, k ≤ q → q < M → dig l q = dig r q)) (fun v _ _ => (intOf v + 1).toNat)
  case atStart => exact ⟨M, rfl, Nat.le_refl _, (fun q h1 h2 => by omega : ∀ q, M ≤ q → q < M → dig l q = dig r q)⟩
  case round =>
    obtain ⟨k, rfl, hk, HQ⟩ := hrel
    rcases Nat.eq_zero_or_pos k with e | e
    · subst e
      have hA : ans = false := by rw [← HA.out, decide_eq_false]; rw [more_none l r M HQ.out]; omega
      have hkz : ¬ (0 : Int) ≤ ((0 : Nat) : Int) - 1 := by omega
      subst hA
      go_wp2_with fail
      go_ret
      exact ⟨rfl, rfl⟩
    · obtain ⟨i, rfl⟩ : ∃ i, k = i + 1 := ⟨k - 1, by omega⟩
      rw [show ((i + 1 : Nat) : Int) - 1 = (i : Int) by omega]
      obtain ⟨x, hx⟩ : ∃ x, dig l i = x := ⟨_, rfl⟩
      obtain ⟨y, hy⟩ : ∃ y, dig r i = y := ⟨_, rfl⟩
      have hi0 : (0 : Int) ≤ (i : Int) := by omega
      by_cases hxy : x = y
      · subst hxy
        have hxi : ¬ (x : Int) ≠ (x : Int) := by omega
        by_cases a1 : i < n
        · by_cases a2 : i < m
          · obtain ⟨b1, o1, rfl, hb1, hc1⟩ := h1.at_ a1
            rw [nv_at _ _ (by rw [← nv_len, HL.out]; exact a1), dig_at, hx] at hc1
            have a1' : (i : Int) < (n : Int) := by omega
            obtain ⟨b2, o2, rfl, hb2, hc2⟩ := h2.at_ a2
            rw [nv_at _ _ (by rw [← nv_len, HR.out]; exact a2), dig_at, hy] at hc2
            have a2' : (i : Int) < (m : Int) := by omega
            have HXY := Lib.hid (And.intro hx hy)
            clear hx hy
            go_wp2_with fail
            go_round
            case rel => exact ⟨i, rfl, by omega, (fun q h3 h4 => by
              rcases Nat.eq_or_lt_of_le h3 with e | e
              · rw [← e, HXY.out.1, HXY.out.2]
              · exact HQ.out q e h4 : ∀ q, i ≤ q → q < M → dig l q = dig r q)⟩
            case measure => simp [intOf]
          · obtain ⟨b1, o1, rfl, hb1, hc1⟩ := h1.at_ a1
            rw [nv_at _ _ (by rw [← nv_len, HL.out]; exact a1), dig_at, hx] at hc1
            have a1' : (i : Int) < (n : Int) := by omega
            obtain rfl : x = 0 := by rw [← hy]; exact dig_no (by rw [← nv_len, HR.out]; omega)
            have a2' : ¬ (i : Int) < (m : Int) := by omega
            have HXY := Lib.hid (And.intro hx hy)
            clear hx hy
            go_wp2_with fail
            go_round
            case rel => exact ⟨i, rfl, by omega, (fun q h3 h4 => by
              rcases Nat.eq_or_lt_of_le h3 with e | e
              · rw [← e, HXY.out.1, HXY.out.2]
              · exact HQ.out q e h4 : ∀ q, i ≤ q → q < M → dig l q = dig r q)⟩
            case measure => simp [intOf]
        · by_cases a2 : i < m
          · obtain rfl : x = 0 := by rw [← hx]; exact dig_no (by rw [← nv_len, HL.out]; omega)
            have a1' : ¬ (i : Int) < (n : Int) := by omega
            obtain ⟨b2, o2, rfl, hb2, hc2⟩ := h2.at_ a2
            rw [nv_at _ _ (by rw [← nv_len, HR.out]; exact a2), dig_at, hy] at hc2
            have a2' : (i : Int) < (m : Int) := by omega
            have HXY := Lib.hid (And.intro hx hy)
            clear hx hy
            go_wp2_with fail
            go_round
            case rel => exact ⟨i, rfl, by omega, (fun q h3 h4 => by
              rcases Nat.eq_or_lt_of_le h3 with e | e
              · rw [← e, HXY.out.1, HXY.out.2]
              · exact HQ.out q e h4 : ∀ q, i ≤ q → q < M → dig l q = dig r q)⟩
            case measure => simp [intOf]
          · omega
      · have hxi : ¬ (x : Int) = (y : Int) := by omega
        by_cases a1 : i < n
        · by_cases a2 : i < m
          · obtain ⟨b1, o1, rfl, hb1, hc1⟩ := h1.at_ a1
            rw [nv_at _ _ (by rw [← nv_len, HL.out]; exact a1), dig_at, hx] at hc1
            have a1' : (i : Int) < (n : Int) := by omega
            obtain ⟨b2, o2, rfl, hb2, hc2⟩ := h2.at_ a2
            rw [nv_at _ _ (by rw [← nv_len, HR.out]; exact a2), dig_at, hy] at hc2
            have a2' : (i : Int) < (m : Int) := by omega
            have HXY := Lib.hid (And.intro hx hy)
            clear hx hy
            have hA := (more_math l r HX.out.1 HX.out.2 i M (by omega) HQ.out (by rw [HXY.out.1, HXY.out.2]; exact hxy)).trans HA.out
            rw [HXY.out.1, HXY.out.2] at hA
            have HA2 := Lib.hid hA
            clear hA
            go_wp2_with fail
            go_ret
            refine ⟨?_, rfl⟩
            rw [← HA2.out]
            first | rfl | (simp; done) | (simp; omega)
          · obtain ⟨b1, o1, rfl, hb1, hc1⟩ := h1.at_ a1
            rw [nv_at _ _ (by rw [← nv_len, HL.out]; exact a1), dig_at, hx] at hc1
            have a1' : (i : Int) < (n : Int) := by omega
            obtain rfl : y = 0 := by rw [← hy]; exact dig_no (by rw [← nv_len, HR.out]; omega)
            have a2' : ¬ (i : Int) < (m : Int) := by omega
            have HXY := Lib.hid (And.intro hx hy)
            clear hx hy
            have hA := (more_math l r HX.out.1 HX.out.2 i M (by omega) HQ.out (by rw [HXY.out.1, HXY.out.2]; exact hxy)).trans HA.out
            rw [HXY.out.1, HXY.out.2] at hA
            have HA2 := Lib.hid hA
            clear hA
            go_wp2_with fail
            go_ret
            refine ⟨?_, rfl⟩
            rw [← HA2.out]
            first | rfl | (simp; done) | (simp; omega)
        · by_cases a2 : i < m
          · obtain rfl : x = 0 := by rw [← hx]; exact dig_no (by rw [← nv_len, HL.out]; omega)
            have a1' : ¬ (i : Int) < (n : Int) := by omega
            obtain ⟨b2, o2, rfl, hb2, hc2⟩ := h2.at_ a2
            rw [nv_at _ _ (by rw [← nv_len, HR.out]; exact a2), dig_at, hy] at hc2
            have a2' : (i : Int) < (m : Int) := by omega
            have HXY := Lib.hid (And.intro hx hy)
            clear hx hy
            have hA := (more_math l r HX.out.1 HX.out.2 i M (by omega) HQ.out (by rw [HXY.out.1, HXY.out.2]; exact hxy)).trans HA.out
            rw [HXY.out.1, HXY.out.2] at hA
            have HA2 := Lib.hid hA
            clear hA
            go_wp2_with fail
            go_ret
            refine ⟨?_, rfl⟩
            rw [← HA2.out]
            first | rfl | (simp; done) | (simp; omega)
          · obtain rfl : x = 0 := by rw [← hx]; exact dig_no (by rw [← nv_len, HL.out]; omega)
            have a1' : ¬ (i : Int) < (n : Int) := by omega
            obtain rfl : y = 0 := by rw [← hy]; exact dig_no (by rw [← nv_len, HR.out]; omega)
            have a2' : ¬ (i : Int) < (m : Int) := by omega
            exact absurd rfl hxy
end Go.Proofs.YtagomegeeijfnaaDoor.dg
