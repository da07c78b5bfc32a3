/- Contracts of the document's Prime and Good. -/
import Derived.Test.YtjogiobhgmbboaaRbPrimes
namespace Go.Proofs.Ytjogiobhgmbboaa.rb
open Go.RowKit Mem
set_option linter.unusedVariables false
theorem dg_half_lt {d k : Nat} (hd : 2 ≤ d) : dg d ≤ (k : Int) ↔ d < 2 ^ (k + 1) := by
  have d0 : d ≠ 0 := by omega
  rw [dg_pos d0, ← Nat.log2_lt d0]
  omega
set_option maxRecDepth 100000 in
theorem rprime_any (p : Nat) (w : World) (hp : p < 18446744073709551616) :
    Calls Try.prog 27 #[.int .u64 (p : Nat)] w fun e w' => e = .returned (.bool (primeB p)) ∧ w = w' := by
  by_cases c : dg p < 1 ∨ 31 < dg p
  · have hB : primeB p = false := by unfold primeB; rw [if_pos c]
    rw [hB]
    clear hB
    rcases c with c | c
    all_goals
      go_enter Try.func27, Try.ntmps27
      go_wp2_with (go_at_call 16; refine (rdeg_any _ _ (by omega)).mono ?_; rintro e w' ⟨rfl, rfl⟩)
    all_goals go_ret
    all_goals exact ⟨rfl, rfl⟩
  · have p0 : p ≠ 0 := by intro h; subst h; rw [dg_zero] at c; omega
    have hd := dg_pos p0
    obtain ⟨n, hn⟩ : ∃ n, p.log2 = n := ⟨_, rfl⟩
    have hiff := prime_iff (p := p) (by omega) (by omega)
    rw [hn] at hd hiff
    have c1 : ¬ dg p < 1 := by omega
    have c2 : ¬ 31 < dg p := by omega
    have n31 : n ≤ 31 := by omega
    obtain ⟨K, hK⟩ : ∃ K, n / 2 = K := ⟨_, rfl⟩
    rw [hK] at hiff
    obtain ⟨M, hM⟩ : ∃ M, 2 ^ (K + 1) = M := ⟨_, rfl⟩
    have hM2 : M ≤ 65536 := by rw [← hM]; exact Nat.le_trans (Nat.pow_le_pow_right (n := 2) (by decide) (show K + 1 ≤ 16 by omega)) (by decide)
    have hM0 : 2 ≤ M := by rw [← hM, Nat.pow_succ]; have := Nat.two_pow_pos K; omega
    have hlt : ∀ d, 2 ≤ d → (dg d ≤ (K : Int) ↔ d < M) := fun d h => by rw [← hM]; exact dg_half_lt h
    rw [hM] at hiff
    have HI := Lib.hid hiff
    have HL := Lib.hid hlt
    have hki : (n : Int) / 2 = (K : Int) := by omega
    clear hiff hlt hM hK hn c
    go_enter Try.func27, Try.ntmps27
    go_wp2_with (go_at_call 16; refine (rdeg_any _ _ (by omega)).mono ?_; rintro e w' ⟨rfl, rfl⟩)
    go_loop [4, 13, 14, 15, 16, 17, 18, 19, 20, 21, 22, 23] (fun v _ _ _ _ _ _ _ _ _ _ _ => ∃ d : Nat, v = .int .u64 (d : Nat) ∧ 2 ≤ d ∧ d ≤ M ∧ Hid (∀ e, 2 ≤ e → e < d → md p e ≠ 0)) (fun v _ _ _ _ _ _ _ _ _ _ _ => M - (intOf v).toNat)
    case atStart => exact ⟨2, rfl, by omega, hM0, Lib.hid (fun e h1 h2 => by omega)⟩
    case round =>
      obtain ⟨d, rfl, h2, hdM, HD⟩ := hrel
      by_cases e : d < M
      · have g1 : dg d ≤ (K : Int) := (HL.out d h2).2 e
        have hMd : ∀ w, Calls Try.prog 18 #[.int .u64 (p : Nat), .int .u64 (d : Nat)] w fun e w' => e = .returned (.int .u64 (md p d : Nat)) ∧ w = w' := fun w => rmod_any p d w hp (by omega)
        by_cases z : md p d = 0
        · rw [z] at hMd
          have HM := Lib.hid hMd
          have HF : Hid (primeB p = false) := Lib.hid (by
            cases hb : primeB p with
            | false => rfl
            | true => exact absurd z (HI.out.1 hb d h2 e))
          clear hMd z
          go_wp2_with (first
            | (go_at_call 16; refine (rdeg_any _ _ (by omega)).mono ?_; rintro e w' ⟨rfl, rfl⟩)
            | (go_at_call 18; refine (HM.out _).mono ?_; rintro e w' ⟨rfl, rfl⟩))
          go_ret
          exact ⟨ret_bool HF.out.symm, rfl⟩
        · obtain ⟨x, hx⟩ : ∃ x, md p d = x := ⟨_, rfl⟩
          have z2 : ((x : Int) == 0) = false := by rw [beq_eq_false_iff_ne]; omega
          rw [hx] at hMd
          have HM := Lib.hid hMd
          have HN : Hid (∀ e, 2 ≤ e → e < d + 1 → md p e ≠ 0) := Lib.hid (fun e h1 h3 => by
            by_cases y : e = d
            · subst y; exact z
            · exact HD.out e h1 (by omega))
          clear hMd z hx
          go_wp2_with (first
            | (go_at_call 16; refine (rdeg_any _ _ (by omega)).mono ?_; rintro e w' ⟨rfl, rfl⟩)
            | (go_at_call 18; refine (HM.out _).mono ?_; rintro e w' ⟨rfl, rfl⟩))
          go_round
          case rel => exact ⟨d + 1, by go_num, by omega, by omega, HN⟩
          case measure => simp only [intOf]; omega
      · have g1 : ¬ dg d ≤ (K : Int) := fun h => e ((HL.out d h2).1 h)
        have HT : Hid (primeB p = true) := Lib.hid (HI.out.2 (fun x h1 h3 => HD.out x h1 (by omega)))
        go_wp2_with (go_at_call 16; refine (rdeg_any _ _ (by omega)).mono ?_; rintro e w' ⟨rfl, rfl⟩)
        go_ret
        exact ⟨ret_bool HT.out.symm, rfl⟩
theorem rgood_any (p : Nat) (w : World) (hp : p < 18446744073709551616) :
    Calls Try.prog 25 #[.int .u64 (p : Nat)] w fun e w' => e = .returned (.bool (goodB p)) ∧ w = w' := by
  unfold goodB
  by_cases c : dg p = 31
  · rw [decide_eq_true c]
    have c2 : (dg p == 31) = true := by simp [c]
    go_enter Try.func25, Try.ntmps25
    go_wp2_with (first
      | (go_at_call 16; refine (rdeg_any _ _ (by omega)).mono ?_; rintro e w' ⟨rfl, rfl⟩)
      | (go_at_call 27; refine (rprime_any _ _ (by omega)).mono ?_; rintro e w' ⟨rfl, rfl⟩))
    go_ret
    exact ⟨rfl, rfl⟩
  · rw [decide_eq_false c]
    have c2 : (dg p == 31) = false := by simpa using c
    go_enter Try.func25, Try.ntmps25
    go_wp2_with (first
      | (go_at_call 16; refine (rdeg_any _ _ (by omega)).mono ?_; rintro e w' ⟨rfl, rfl⟩)
      | (go_at_call 27; refine (rprime_any _ _ (by omega)).mono ?_; rintro e w' ⟨rfl, rfl⟩))
    go_ret
    exact ⟨rfl, rfl⟩
end Go.Proofs.Ytjogiobhgmbboaa.rb
