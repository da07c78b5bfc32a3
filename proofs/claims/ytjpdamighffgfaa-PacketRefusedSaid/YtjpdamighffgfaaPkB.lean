/- Contracts of packet.Check and the document's. -/
import Derived.Test.YtjpdamighffgfaaPkA
namespace Go.Proofs.Ytjpdamighffgfaa.pk
open Go.RowKit Mem SM lib sum PM
set_option linter.unusedVariables false
/-- a packet as a value -/
def pkV (p : Pk) (A : Option Addr) (n c : Nat) : Value := .agg #[.int .i64 p.src, .int .i64 p.dst, .int .i64 p.sport, .int .i64 p.dport, .int .u32 p.seq, .int .u32 p.ack, .int .i64 p.flags, .int .i64 p.window, .int .i64 p.probe, .int .i64 p.origin, .slice A n c]
def wiB (x lo hi : Int) : Bool := decide (lo ≤ x ∧ x ≤ hi)
theorem within_any (x lo hi : Int) (w : World) : Calls Try.prog 39 #[.int .i64 x, .int .i64 lo, .int .i64 hi] w fun e w' => e = .returned (.bool (wiB x lo hi)) ∧ w = w' := by
  by_cases h1 : lo ≤ x
  · have d1 : decide (lo ≤ x) = true := decide_eq_true h1
    go_enter Try.func39, Try.ntmps39
    go_wp2
    go_ret
    exact ⟨ret_bool (by unfold wiB; simp [h1]), rfl⟩
  · have d1 : decide (lo ≤ x) = false := decide_eq_false h1
    go_enter Try.func39, Try.ntmps39
    go_wp2
    go_ret
    exact ⟨ret_bool (by unfold wiB; simp; omega), rfl⟩
def hostsB (p : Pk) : Bool := wiB p.src 1 4 && wiB p.dst 1 4 && (p.src != p.dst)
def portsB (p : Pk) : Bool := wiB p.sport 1 65535 && wiB p.dport 1 65535
def stateB (p : Pk) : Bool := wiB p.flags 0 15 && wiB p.window 0 65535
def optionsB (p : Pk) : Bool := wiB p.probe 0 1099511627776 && wiB p.origin 0 65535
theorem chk_parts (p : Pk) : chk p = if (hostsB p && portsB p && stateB p && optionsB p && decide (p.data.length ≤ 128)) then 0 else 40 := by
  unfold chk
  congr 1
  rw [eq_iff_iff]
  simp only [hostsB, portsB, stateB, optionsB, wiB, Bool.and_eq_true, decide_eq_true_eq, bne_iff_ne, ne_eq, okP]
  constructor
  · rintro ⟨a, b, c, d, e, f, g, h, i, j⟩; exact ⟨⟨⟨⟨⟨⟨a, b⟩, c⟩, d, e⟩, f, g⟩, h, i⟩, j⟩
  · rintro ⟨⟨⟨⟨⟨⟨a, b⟩, c⟩, d, e⟩, f, g⟩, h, i⟩, j⟩; exact ⟨a, b, c, d, e, f, g, h, i, j⟩
set_option maxHeartbeats 4000000 in
theorem check_any (p : Pk) (A : Option Addr) (n c : Nat) (w : World) (hn : n = p.data.length) (hnb : n ≤ 9223372036854775807) :
    Calls Try.prog 18 #[pkV p A n c] w fun e w' => e = .returned (.int .i64 (chk p)) ∧ Below w.heap.size w w' := by
  unfold pkV
  have hchk := chk_parts p
  rw [← hn] at hchk
  have Hchk := Lib.hid hchk
  clear hchk hn
  go_enter Try.func18, Try.ntmps18
  go_upto_region 1 with fail
  go_cut [3] (fun s3 wx => s3 = .bool (hostsB p) ∧ wx = (w.alloc (.cells #[.int .i64 p.src, .int .i64 p.dst, .int .i64 p.sport, .int .i64 p.dport, .int .u32 p.seq, .int .u32 p.ack, .int .i64 p.flags, .int .i64 p.window, .int .i64 p.probe, .int .i64 p.origin, .slice A n c] 25)))
  case first =>
    cases h1 : wiB p.src 1 4 <;> cases h2 : wiB p.dst 1 4 <;> cases h3 : (p.src != p.dst)
    all_goals
      go_wp2_with (go_at_call 39; refine (within_any _ _ _ _).mono ?_; rintro e w' ⟨rfl, rfl⟩)
      go_meet
      exact ⟨by simp only [hostsB, h1, h2, h3]; rfl, rfl⟩
  case rest =>
    obtain ⟨rfl, rfl⟩ := hcut
    go_upto_region 2 with fail
    go_cut [4] (fun s4 wx => s4 = .bool (portsB p) ∧ wx = (w.alloc (.cells #[.int .i64 p.src, .int .i64 p.dst, .int .i64 p.sport, .int .i64 p.dport, .int .u32 p.seq, .int .u32 p.ack, .int .i64 p.flags, .int .i64 p.window, .int .i64 p.probe, .int .i64 p.origin, .slice A n c] 25)))
    case first =>
      cases h1 : wiB p.sport 1 65535 <;> cases h2 : wiB p.dport 1 65535
      all_goals
        go_wp2_with (go_at_call 39; refine (within_any _ _ _ _).mono ?_; rintro e w' ⟨rfl, rfl⟩)
        go_meet
        exact ⟨by simp only [portsB, h1, h2]; rfl, rfl⟩
    case rest =>
      obtain ⟨rfl, rfl⟩ := hcut
      go_upto_region 3 with fail
      go_cut [5] (fun s5 wx => s5 = .bool (stateB p) ∧ wx = (w.alloc (.cells #[.int .i64 p.src, .int .i64 p.dst, .int .i64 p.sport, .int .i64 p.dport, .int .u32 p.seq, .int .u32 p.ack, .int .i64 p.flags, .int .i64 p.window, .int .i64 p.probe, .int .i64 p.origin, .slice A n c] 25)))
      case first =>
        cases h1 : wiB p.flags 0 15 <;> cases h2 : wiB p.window 0 65535
        all_goals
          go_wp2_with (go_at_call 39; refine (within_any _ _ _ _).mono ?_; rintro e w' ⟨rfl, rfl⟩)
          go_meet
          exact ⟨by simp only [stateB, h1, h2]; rfl, rfl⟩
      case rest =>
        obtain ⟨rfl, rfl⟩ := hcut
        go_upto_region 4 with fail
        go_cut [6] (fun s6 wx => s6 = .bool (optionsB p) ∧ wx = (w.alloc (.cells #[.int .i64 p.src, .int .i64 p.dst, .int .i64 p.sport, .int .i64 p.dport, .int .u32 p.seq, .int .u32 p.ack, .int .i64 p.flags, .int .i64 p.window, .int .i64 p.probe, .int .i64 p.origin, .slice A n c] 25)))
        case first =>
          cases h1 : wiB p.probe 0 1099511627776 <;> cases h2 : wiB p.origin 0 65535
          all_goals
            go_wp2_with (go_at_call 39; refine (within_any _ _ _ _).mono ?_; rintro e w' ⟨rfl, rfl⟩)
            go_meet
            exact ⟨by simp only [optionsB, h1, h2]; rfl, rfl⟩
        case rest =>
          obtain ⟨rfl, rfl⟩ := hcut
          have hbel := (Below.refl w.heap.size w).alloc (Nat.le_refl _) (.cells #[.int .i64 p.src, .int .i64 p.dst, .int .i64 p.sport, .int .i64 p.dport, .int .u32 p.seq, .int .u32 p.ack, .int .i64 p.flags, .int .i64 p.window, .int .i64 p.probe, .int .i64 p.origin, .slice A n c] 25)
          by_cases h5 : n ≤ 128
          · have d5 : decide (n ≤ 128) = true := decide_eq_true h5
            cases h1 : hostsB p <;> cases h2 : portsB p <;> cases h3 : stateB p <;> cases h4 : optionsB p
            all_goals
              go_wp2
              go_ret
              exact ⟨ret_int (by rw [Hchk.out, h1, h2, h3, h4, d5]; rfl), hbel⟩
          · have d5 : decide (n ≤ 128) = false := decide_eq_false h5
            cases h1 : hostsB p <;> cases h2 : portsB p <;> cases h3 : stateB p <;> cases h4 : optionsB p
            all_goals
              go_wp2
              go_ret
              exact ⟨ret_int (by rw [Hchk.out, h1, h2, h3, h4, d5]; rfl), hbel⟩
end Go.Proofs.Ytjpdamighffgfaa.pk
