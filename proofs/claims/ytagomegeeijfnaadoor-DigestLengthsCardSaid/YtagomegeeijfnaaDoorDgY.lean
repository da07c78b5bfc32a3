/- slices.Equal of bytes that are the same. -/
import Derived.Test.YtagomegeeijfnaaDoorDgX
namespace Go.Proofs.YtagomegeeijfnaaDoor.dg
open Go.RowKit Mem DM
set_option linter.unusedVariables false
theorem sliceEqual_any (A1 A2 : Option Addr) (n m c d B1 B2 : Nat) (l : List UInt8) (w : World) (h1 : Rd w B1 A1 n (bv l)) (h2 : Rd w B2 A2 m (bv l)) (hn : n ≤ 1099511627776) :
    Calls Tryd.prog 10 #[.slice A1 n c, .slice A2 m d] w fun e w' => e = .returned (.bool true) ∧ ∃ q, w' = w.drewN q := by
  obtain rfl : n = m := by have := h1.len; have := h2.len; omega
  have Hn := Lib.hid h1.len
  go_enter Tryd.func10, Tryd.ntmps10
  go_wp2_with fail
  go_loopw [5, 13] (fun _ i wr => ∃ k q : Nat, i = .int .i64 k ∧ k ≤ n ∧ wr = w.drewN q) (fun _ i _ => n - (intOf i).toNat)
  case atStart => exact ⟨0, 0, rfl, by omega, rfl⟩
  case round =>
    obtain ⟨k, q, rfl, hk, rfl⟩ := hrel
    by_cases hlt : k < n
    · have hkl : k < l.length := by have := Hn.out; rw [bv_len] at this; omega
      obtain ⟨b1, o1, rfl, _, hc1⟩ := h1.at_ hlt
      obtain ⟨b2, o2, rfl, _, hc2⟩ := h2.at_ hlt
      rw [bv_at l k hkl] at hc1 hc2
      obtain ⟨x, hx⟩ : ∃ x : Nat, x = l[k].toNat := ⟨_, rfl⟩
      rw [← hx] at hc1 hc2
      have Hx := Lib.hid hx
      clear hx
      have hk1 : (k : Int) < (n : Int) := by omega
      have hne : ((x : Int) != (x : Int)) = false := by simp
      go_wp2_with fail
      go_quiet (fail)
      go_wp2
      go_roundw
      case rel => exact ⟨k + 1, _, by go_num, by omega, rfl⟩
      case measure => simp [intOf]; omega
    · go_wp2
      go_ret
      exact ⟨rfl, q, rfl⟩
end Go.Proofs.YtagomegeeijfnaaDoor.dg
