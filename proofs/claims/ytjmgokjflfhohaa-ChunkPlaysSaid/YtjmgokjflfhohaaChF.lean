/- The document's First and Cut. -/
import Derived.Test.YtjmgokjflfhohaaChE
namespace Go.Proofs.Ytjmgokjflfhohaa.ch
open Go.RowKit Mem rb
set_option linter.unusedVariables false
variable {w w' : World} {p : Nat}
theorem last16_of {x : List UInt8} (h : 16 ≤ x.length) : last16 x = x.drop (x.length - 16) := by
  unfold last16
  rw [List.drop_append, show nought.length = 16 by simp [nought]]
  have : List.drop x.length nought = [] := List.drop_eq_nil_of_le (by simp [nought]; omega)
  rw [this, List.nil_append]
theorem last16_take (l : List UInt8) (m : Nat) (h : 16 ≤ m) (hm : m ≤ l.length) : last16 (l.take m) = (l.drop (m - 16)).take 16 := by
  rw [last16_of (by rw [List.length_take]; omega), List.length_take, Nat.min_eq_left hm, List.drop_take]
  congr 1; omega
theorem rule_take (l : List UInt8) (m : Nat) (h : 32 ≤ m) (hm : m ≤ l.length) : rule p (l.take m) = (decide (256 ≤ m) || decide (fp p ((l.drop (m - 16)).take 16) % 64 = 63)) := by
  unfold rule
  rw [last16_take l m (by omega) hm, List.length_take, Nat.min_eq_left hm, decide_eq_true h, Bool.true_and]
/-- how many bytes the first chunk has -/
def FirstOk (p : Nat) (l : List UInt8) (f : Nat) : Prop := (f = 0 ∧ ∀ m, 32 ≤ m → m ≤ l.length → m ≤ 256 → rule p (l.take m) = false) ∨ (32 ≤ f ∧ f ≤ 256 ∧ f ≤ l.length ∧ rule p (l.take f) = true ∧ ∀ m, 32 ≤ m → m < f → rule p (l.take m) = false)
def FirstPost (p : Nat) (l : List UInt8) (w : World) (e : Ending) (w' : World) : Prop := ∃ f, e = .returned (.int .i64 (f : Nat)) ∧ FirstOk p l f ∧ w = w'
set_option maxRecDepth 100000 in
theorem first_any (B n c : Nat) (A : Option Addr) (l : List UInt8) (w : World) (hp : p.log2 = 31) (hr : Rd w B A n (bv l)) (hc : n ≤ c) (hn : n ≤ 1048576) :
    Calls Try.prog 27 #[.int .u64 (p : Nat), .slice A n c] w (FirstPost p l w) := by
  have HL := Lib.hid (show l.length = n by rw [← bv_len, hr.len])
  go_enter Try.func27, Try.ntmps27
  go_wp2_with fail
  go_loop [5, 6, 7, 8, 9, 10, 11, 12, 13, 14, 15, 16, 17, 18, 19, 20, 21, 22, 23, 24, 25, 26, 27, 28] (fun v _ _ _ _ _ _ _ _ _ _ _ _ _ _ _ _ _ _ _ _ _ _ _ => ∃ m : Nat, v = .int .i64 (m : Nat) ∧ 32 ≤ m ∧ m ≤ 257 ∧ Hid (∀ k, 32 ≤ k → k < m → k ≤ l.length → k ≤ 256 → rule p (l.take k) = false)) (fun v _ _ _ _ _ _ _ _ _ _ _ _ _ _ _ _ _ _ _ _ _ _ _ => 300 - (intOf v).toNat)
  case atStart => exact ⟨32, rfl, by omega, by omega, Lib.hid (fun k h1 h2 => by omega)⟩
  case round =>
    obtain ⟨m, rfl, h32, h257, HM⟩ := hrel
    by_cases c1 : m ≤ n
    · by_cases c2 : m ≤ 256
      · have i1 : (m : Int) ≤ (n : Int) := by omega
        have i2 : (m : Int) ≤ 256 := by omega
        have i3 : 0 ≤ (m : Int) - 16 := by omega
        have i4 : (m : Int) - 16 ≤ (m : Int) := by omega
        have i5 : (m : Int) ≤ (c : Int) := by omega
        have hrt := rule_take (p := p) l m h32 (by have := HL.out; omega)
        by_cases c3 : m = 256
        · subst c3
          have HF : Hid (FirstOk p l 256) := Lib.hid (Or.inr ⟨by omega, by omega, by have := HL.out; omega, by rw [hrt]; rfl, fun k h1 h2 => HM.out k h1 h2 (by have := HL.out; omega) (by omega)⟩)
          clear hrt
          go_wp2_with fail
          go_ret
          exact ⟨256, rfl, HF.out, rfl⟩
        · have i6 : ((m : Int) == 256) = false := by rw [beq_eq_false_iff_ne]; omega
          rw [decide_eq_false (by omega : ¬ 256 ≤ m), Bool.false_or] at hrt
          obtain ⟨f, hf⟩ : ∃ f, fp p ((l.drop (m - 16)).take 16) = f := ⟨_, rfl⟩
          rw [hf] at hrt
          have HRT := Lib.hid hrt
          have HFP : ∀ (A' : Option Addr) (n' c' : Nat), n' = 16 → Rd w B A' n' (bv ((l.drop (m - 16)).take 16)) → Hid (Calls Try.prog 36 #[.int .u64 (p : Nat), .slice A' n' c'] w fun e w' => e = .returned (.int .u64 (f : Nat)) ∧ w = w') := fun A' n' c' _ h => Lib.hid (by
            rw [← hf]
            exact rprint_any B n' c' A' _ w hp (by have := log31_lt hp; omega) h (by omega))
          have e16 : m - (m - 16) = 16 := by omega
          have hcut := hr.cut (l := m - 16) (m := 16) (by omega) (A' := Option.map (fun x => x.add (m - 16)) A) (fun _ => rfl)
          rw [← bv_drop, ← bv_take] at hcut
          have HP1 := HFP (Option.map (fun x => x.add (m - 16)) A) (m - (m - 16)) (c - (m - 16)) e16 (by rw [e16]; exact hcut)
          clear hrt hf hcut HFP e16
          by_cases c4 : f % 64 = 63
          · have j1 : (f : Int) % 64 = 63 := by omega
            have j2 : ((f : Int) % 64 == 63) = true := by rw [j1]; rfl
            have HF : Hid (FirstOk p l m) := Lib.hid (Or.inr ⟨h32, c2, by have := HL.out; omega, by rw [HRT.out, decide_eq_true c4], fun k h1 h2 => HM.out k h1 h2 (by have := HL.out; omega) (by omega)⟩)
            go_wp2_with (go_at_call 36; refine HP1.out.mono ?_; rintro e w' ⟨rfl, rfl⟩)
            go_ret
            exact ⟨m, rfl, HF.out, rfl⟩
          · have j1 : ¬ (f : Int) % 64 = 63 := by omega
            have j2 : ((f : Int) % 64 == 63) = false := by rw [beq_eq_false_iff_ne]; exact j1
            have HN : Hid (∀ k, 32 ≤ k → k < m + 1 → k ≤ l.length → k ≤ 256 → rule p (l.take k) = false) := Lib.hid (fun k h1 h2 h3 h4 => by
              by_cases e : k = m
              · subst e; rw [HRT.out, decide_eq_false c4]
              · exact HM.out k h1 (by omega) h3 h4)
            go_wp2_with (go_at_call 36; refine HP1.out.mono ?_; rintro e w' ⟨rfl, rfl⟩)
            go_round
            case rel => exact ⟨m + 1, by go_num, by omega, by omega, HN⟩
            case measure => simp only [intOf]; omega
      · have i2 : ¬ (m : Int) ≤ 256 := by omega
        have HF : Hid (FirstOk p l 0) := Lib.hid (Or.inl ⟨rfl, fun k h1 h2 h3 => HM.out k h1 (by omega) h2 h3⟩)
        have i1 : (m : Int) ≤ (n : Int) := by omega
        go_wp2_with fail
        go_ret
        exact ⟨0, rfl, HF.out, rfl⟩
    · have i1 : ¬ (m : Int) ≤ (n : Int) := by omega
      have HF : Hid (FirstOk p l 0) := Lib.hid (Or.inl ⟨rfl, fun k h1 h2 h3 => HM.out k h1 (by have := HL.out; omega) h2 h3⟩)
      go_wp2_with fail
      go_ret
      exact ⟨0, rfl, HF.out, rfl⟩
/-- the first chunk, and what is left -/
theorem first_cut {l : List UInt8} {f : Nat} (hp : p.log2 = 31) (h : FirstOk p l f) : (f = 0 ∧ cutF (rule p) [] l = ([], l)) ∨ (0 < f ∧ f ≤ l.length ∧ cutF (rule p) [] l = (l.take f :: (cutF (rule p) [] (l.drop f)).1, (cutF (rule p) [] (l.drop f)).2)) := by
  have low : ∀ m, 0 < m → m < 32 → m ≤ l.length → rule p (l.take m) = false := fun m h0 h1 h2 => by
    cases hb : rule p (l.take m) with
    | false => rfl
    | true =>
      have := (rule_ok p).least _ hb
      rw [List.length_take] at this
      omega
  rcases h with ⟨rfl, h⟩ | ⟨h1, h2, h3, h4, h5⟩
  · left
    refine ⟨rfl, ?_⟩
    have hlen : l.length < 256 := by
      apply Nat.lt_of_not_le
      intro hle
      have h6 := h 256 (by omega) hle (by omega)
      have h7 := (rule_ok p).most (l.take 256) (by rw [List.length_take]; omega)
      rw [h6] at h7; cases h7
    have := cut_none (e := rule p) l [] (fun m h0 hm => by
      rw [List.nil_append]
      by_cases c : m < 32
      · exact low m h0 c hm
      · exact h m (by omega) hm (by omega))
    rwa [List.nil_append] at this
  · right
    refine ⟨by omega, h3, ?_⟩
    have := cut_at (e := rule p) f l [] (by omega) h3 (fun m h0 hm => by
      rw [List.nil_append]
      by_cases c : m < 32
      · exact low m h0 c (by omega)
      · exact h5 m (by omega) hm) (by rw [List.nil_append]; exact h4)
    rwa [List.nil_append] at this
end Go.Proofs.Ytjmgokjflfhohaa.ch
