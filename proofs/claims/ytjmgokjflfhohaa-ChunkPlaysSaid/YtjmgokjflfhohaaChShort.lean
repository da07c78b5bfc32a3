/- Calls of a cutter that are short enough. -/
import Derived.Test.YtjmgokjflfhohaaChDo
import Derived.ProofKit
namespace Go.Proofs.Ytjmgokjflfhohaa.ch
open Go.RowKit Mem rb
set_option linter.unusedVariables false
theorem Dos.at_ {w : World} {B n : Nat} {A : Option Addr} {ds : List (Int × List UInt8)} (h : Dos w B A n ds) {i : Nat} (hi : i < n) :
    ∃ b off op Ai mi ki l, A = some ⟨b, off, none⟩ ∧ b < B ∧ w.cell? ⟨b, off + 2 * i, none⟩ = some (.int .i64 op) ∧ w.cell? ⟨b, off + 2 * i + 1, none⟩ = some (.slice Ai mi ki) ∧ mi ≤ ki ∧ Rd w B Ai mi (bv l) ∧ mi = l.length ∧ ∃ h : i < ds.length, ds[i] = (op, l) := by
  obtain ⟨b, off, e, hb, hc⟩ := h.addr (by omega)
  have hl := h.len
  obtain ⟨Ai, mi, ki, h1, h2, h3, h4⟩ := hc i (by omega)
  exact ⟨b, off, _, Ai, mi, ki, _, e, hb, h1, h2, h3, h4, by rw [← h4.len, bv_len], by omega, rfl⟩
/-- what short answers -/
def ShortPost (n : Nat) (ds : List (Int × List UInt8)) (e : Ending) : Prop := ∃ b, e = .returned (.bool b) ∧ (b = true → n ≤ 100 ∧ ∀ d ∈ ds, d.2.length ≤ 8192)
set_option maxRecDepth 50000 in
theorem short_any (A : Option Addr) (n c B : Nat) (ds : List (Int × List UInt8)) (w : World) (hd : Dos w B A n ds) (hc : n ≤ c) (hn : n ≤ 9223372036854775807) :
    Calls Try.prog 20 #[.slice A n c] w fun e w' => w' = w ∧ ShortPost n ds e := by
  have HD := Lib.hid hd
  clear hd
  go_enter Try.func20, Try.ntmps20
  go_wp2_with fail
  go_loopw [3, 4, 5, 6, 7, 8, 9, 10, 11, 12, 13, 14, 15, 16, 17, 18, 19, 20, 21, 22, 23, 24, 25, 26, 27] (fun v3 v4 _ _ _ _ _ _ _ _ _ _ _ _ _ _ _ _ _ _ _ _ _ _ _ wr => ∃ j N : Nat, v3 = .int .i64 (N : Nat) ∧ v4 = .int .i64 (j : Nat) ∧ j ≤ n ∧ j ≤ 101 ∧ N ≤ 16385 ∧ wr = w ∧ (N ≤ 8192 → ∀ i (h : i < ds.length), i < j → (ds[i]).2.length ≤ 8192)) (fun _ v _ _ _ _ _ _ _ _ _ _ _ _ _ _ _ _ _ _ _ _ _ _ _ _ => n - (intOf v).toNat)
  case atStart => exact ⟨0, 0, rfl, rfl, by omega, by omega, by omega, rfl, fun _ i _ h => by omega⟩
  case round =>
    obtain ⟨j, N, rfl, rfl, hj, hj1, hN, rfl, hall⟩ := hrel
    have HA := Lib.hid hall
    clear hall
    by_cases h1 : j < n
    · by_cases h2 : j ≤ 100
      · by_cases h3 : N ≤ 8192
        · obtain ⟨b, off, op, Ai, mi, ki, l, rfl, hb, h4, h5, h6, h7, h8, h9, h10⟩ := HD.out.at_ h1
          have k1 : (j : Int) < (n : Int) := by omega
          have k2 : (j : Int) ≤ 100 := by omega
          have k3 : (N : Int) ≤ 8192 := by omega
          have HL := Lib.hid (And.intro h8 h10)
          rw [show off + 2 * j + 1 = off + j * 2 + 1 by omega] at h5
          clear h8 h7 h4 hb h10
          by_cases h11 : 8193 < mi
          · have k4 : (8193 : Int) < (mi : Int) := by omega
            go_wp2_with fail
            go_roundw
            case rel => exact ⟨j + 1, N + 8193, by go_num, by go_num, by omega, by omega, by omega, by first | rfl | trivial, fun _ => by omega⟩
            case measure => simp only [intOf]; omega
          · have k4 : ¬ (8193 : Int) < (mi : Int) := by omega
            go_wp2_with fail
            go_roundw
            case rel =>
              refine ⟨j + 1, N + mi, by go_num, by go_num, by omega, by omega, by omega, by first | rfl | trivial, fun hs i hi hij => ?_⟩
              by_cases e : i = j
              · subst e
                rw [HL.out.2]
                have := HL.out.1
                simp only
                omega
              · exact HA.out h3 i hi (by omega)
            case measure => simp only [intOf]; omega
        · have k1 : (j : Int) < (n : Int) := by omega
          have k2 : (j : Int) ≤ 100 := by omega
          have k3 : ¬ (N : Int) ≤ 8192 := by omega
          by_cases h4 : n ≤ 100
          all_goals
            first | have k4 : (n : Int) ≤ 100 := by omega
                  | have k4 : ¬ (n : Int) ≤ 100 := by omega
            go_wp2_with fail
            go_ret
            exact ⟨rfl, ⟨_, rfl, fun h => by cases h⟩⟩
      · have k1 : (j : Int) < (n : Int) := by omega
        have k2 : ¬ (j : Int) ≤ 100 := by omega
        have k4 : ¬ (n : Int) ≤ 100 := by omega
        go_wp2_with fail
        go_ret
        exact ⟨rfl, ⟨_, rfl, fun h => by cases h⟩⟩
    · have k1 : ¬ (j : Int) < (n : Int) := by omega
      by_cases h4 : n ≤ 100
      · have k4 : (n : Int) ≤ 100 := by omega
        by_cases h3 : N ≤ 8192
        · have k3 : (N : Int) ≤ 8192 := by omega
          go_wp2_with fail
          go_ret
          refine ⟨rfl, _, rfl, fun _ => ⟨h4, fun d hd => ?_⟩⟩
          obtain ⟨i, hi, rfl⟩ := List.getElem_of_mem hd
          have := HD.out.len
          exact HA.out h3 i hi (by omega)
        · have k3 : ¬ (N : Int) ≤ 8192 := by omega
          go_wp2_with fail
          go_ret
          exact ⟨rfl, ⟨_, rfl, fun h => by cases h⟩⟩
      · have k4 : ¬ (n : Int) ≤ 100 := by omega
        go_wp2_with fail
        go_ret
        exact ⟨rfl, ⟨_, rfl, fun h => by cases h⟩⟩
end Go.Proofs.Ytjmgokjflfhohaa.ch
