/- The document's Check. -/
import Derived.Test.YtjpdamighffgfaaPkB
namespace Go.Proofs.Ytjpdamighffgfaa.pk
open Go.RowKit Mem SM lib sum PM
set_option linter.unusedVariables false
theorem three (x lo hi : Int) : (x < lo ∧ decide (x < lo) = true) ∨ (hi < x ∧ decide (x < lo) = false ∧ decide (hi < x) = true) ∨ (lo ≤ x ∧ x ≤ hi ∧ decide (x < lo) = false ∧ decide (hi < x) = false) := by
  by_cases h1 : x < lo
  · exact Or.inl ⟨h1, decide_eq_true h1⟩
  · by_cases h2 : hi < x
    · exact Or.inr (Or.inl ⟨h2, decide_eq_false h1, decide_eq_true h2⟩)
    · exact Or.inr (Or.inr ⟨by omega, by omega, decide_eq_false h1, decide_eq_false h2⟩)
set_option maxRecDepth 20000 in
set_option maxHeartbeats 8000000 in
theorem rcheck_any (p : Pk) (A : Option Addr) (n c : Nat) (w : World) (hn : n = p.data.length) (hnb : n ≤ 9223372036854775807) :
    Calls Try.prog 19 #[pkV p A n c] w fun e w' => e = .returned (.int .i64 (chk p)) ∧ Below w.heap.size w w' := by
  unfold pkV
  have hchk : chk p = if okP p then 0 else 40 := rfl
  have Hchk := Lib.hid hchk
  have Hn := Lib.hid hn
  clear hchk hn
  go_enter Try.func19, Try.ntmps19
  go_wp2_with fail
  refine wp_loop_rounds 9 ?_
  rw [rounds_succ]
  rcases three (p.src) 1 4 with ⟨h1, d1⟩ | ⟨h1, d1, d2⟩ | ⟨a0, b0, da0, db0⟩
  · go_wp2_with fail
    go_ret
    exact ⟨ret_int (by rw [Hchk.out, if_neg (by unfold okP; omega)]), ((((Below.refl w.heap.size w).alloc (Nat.le_refl _) _).alloc (by simp <;> omega) _).alloc (by simp <;> omega) _)⟩
  · go_wp2_with fail
    go_ret
    exact ⟨ret_int (by rw [Hchk.out, if_neg (by unfold okP; omega)]), ((((Below.refl w.heap.size w).alloc (Nat.le_refl _) _).alloc (by simp <;> omega) _).alloc (by simp <;> omega) _)⟩
  · go_wp2_with fail
    rw [rounds_succ]
    rcases three (p.dst) 1 4 with ⟨h1, d1⟩ | ⟨h1, d1, d2⟩ | ⟨a1, b1, da1, db1⟩
    · go_wp2_with fail
      go_ret
      exact ⟨ret_int (by rw [Hchk.out, if_neg (by unfold okP; omega)]), (((((Below.refl w.heap.size w).alloc (Nat.le_refl _) _).alloc (by simp <;> omega) _).alloc (by simp <;> omega) _).alloc (by simp <;> omega) _)⟩
    · go_wp2_with fail
      go_ret
      exact ⟨ret_int (by rw [Hchk.out, if_neg (by unfold okP; omega)]), (((((Below.refl w.heap.size w).alloc (Nat.le_refl _) _).alloc (by simp <;> omega) _).alloc (by simp <;> omega) _).alloc (by simp <;> omega) _)⟩
    · go_wp2_with fail
      rw [rounds_succ]
      rcases three (p.sport) 1 65535 with ⟨h1, d1⟩ | ⟨h1, d1, d2⟩ | ⟨a2, b2, da2, db2⟩
      · go_wp2_with fail
        go_ret
        exact ⟨ret_int (by rw [Hchk.out, if_neg (by unfold okP; omega)]), ((((((Below.refl w.heap.size w).alloc (Nat.le_refl _) _).alloc (by simp <;> omega) _).alloc (by simp <;> omega) _).alloc (by simp <;> omega) _).alloc (by simp <;> omega) _)⟩
      · go_wp2_with fail
        go_ret
        exact ⟨ret_int (by rw [Hchk.out, if_neg (by unfold okP; omega)]), ((((((Below.refl w.heap.size w).alloc (Nat.le_refl _) _).alloc (by simp <;> omega) _).alloc (by simp <;> omega) _).alloc (by simp <;> omega) _).alloc (by simp <;> omega) _)⟩
      · go_wp2_with fail
        rw [rounds_succ]
        rcases three (p.dport) 1 65535 with ⟨h1, d1⟩ | ⟨h1, d1, d2⟩ | ⟨a3, b3, da3, db3⟩
        · go_wp2_with fail
          go_ret
          exact ⟨ret_int (by rw [Hchk.out, if_neg (by unfold okP; omega)]), (((((((Below.refl w.heap.size w).alloc (Nat.le_refl _) _).alloc (by simp <;> omega) _).alloc (by simp <;> omega) _).alloc (by simp <;> omega) _).alloc (by simp <;> omega) _).alloc (by simp <;> omega) _)⟩
        · go_wp2_with fail
          go_ret
          exact ⟨ret_int (by rw [Hchk.out, if_neg (by unfold okP; omega)]), (((((((Below.refl w.heap.size w).alloc (Nat.le_refl _) _).alloc (by simp <;> omega) _).alloc (by simp <;> omega) _).alloc (by simp <;> omega) _).alloc (by simp <;> omega) _).alloc (by simp <;> omega) _)⟩
        · go_wp2_with fail
          rw [rounds_succ]
          rcases three (p.flags) 0 15 with ⟨h1, d1⟩ | ⟨h1, d1, d2⟩ | ⟨a4, b4, da4, db4⟩
          · go_wp2_with fail
            go_ret
            exact ⟨ret_int (by rw [Hchk.out, if_neg (by unfold okP; omega)]), ((((((((Below.refl w.heap.size w).alloc (Nat.le_refl _) _).alloc (by simp <;> omega) _).alloc (by simp <;> omega) _).alloc (by simp <;> omega) _).alloc (by simp <;> omega) _).alloc (by simp <;> omega) _).alloc (by simp <;> omega) _)⟩
          · go_wp2_with fail
            go_ret
            exact ⟨ret_int (by rw [Hchk.out, if_neg (by unfold okP; omega)]), ((((((((Below.refl w.heap.size w).alloc (Nat.le_refl _) _).alloc (by simp <;> omega) _).alloc (by simp <;> omega) _).alloc (by simp <;> omega) _).alloc (by simp <;> omega) _).alloc (by simp <;> omega) _).alloc (by simp <;> omega) _)⟩
          · go_wp2_with fail
            rw [rounds_succ]
            rcases three (p.window) 0 65535 with ⟨h1, d1⟩ | ⟨h1, d1, d2⟩ | ⟨a5, b5, da5, db5⟩
            · go_wp2_with fail
              go_ret
              exact ⟨ret_int (by rw [Hchk.out, if_neg (by unfold okP; omega)]), (((((((((Below.refl w.heap.size w).alloc (Nat.le_refl _) _).alloc (by simp <;> omega) _).alloc (by simp <;> omega) _).alloc (by simp <;> omega) _).alloc (by simp <;> omega) _).alloc (by simp <;> omega) _).alloc (by simp <;> omega) _).alloc (by simp <;> omega) _)⟩
            · go_wp2_with fail
              go_ret
              exact ⟨ret_int (by rw [Hchk.out, if_neg (by unfold okP; omega)]), (((((((((Below.refl w.heap.size w).alloc (Nat.le_refl _) _).alloc (by simp <;> omega) _).alloc (by simp <;> omega) _).alloc (by simp <;> omega) _).alloc (by simp <;> omega) _).alloc (by simp <;> omega) _).alloc (by simp <;> omega) _).alloc (by simp <;> omega) _)⟩
            · go_wp2_with fail
              rw [rounds_succ]
              rcases three (p.probe) 0 1099511627776 with ⟨h1, d1⟩ | ⟨h1, d1, d2⟩ | ⟨a6, b6, da6, db6⟩
              · go_wp2_with fail
                go_ret
                exact ⟨ret_int (by rw [Hchk.out, if_neg (by unfold okP; omega)]), ((((((((((Below.refl w.heap.size w).alloc (Nat.le_refl _) _).alloc (by simp <;> omega) _).alloc (by simp <;> omega) _).alloc (by simp <;> omega) _).alloc (by simp <;> omega) _).alloc (by simp <;> omega) _).alloc (by simp <;> omega) _).alloc (by simp <;> omega) _).alloc (by simp <;> omega) _)⟩
              · go_wp2_with fail
                go_ret
                exact ⟨ret_int (by rw [Hchk.out, if_neg (by unfold okP; omega)]), ((((((((((Below.refl w.heap.size w).alloc (Nat.le_refl _) _).alloc (by simp <;> omega) _).alloc (by simp <;> omega) _).alloc (by simp <;> omega) _).alloc (by simp <;> omega) _).alloc (by simp <;> omega) _).alloc (by simp <;> omega) _).alloc (by simp <;> omega) _).alloc (by simp <;> omega) _)⟩
              · go_wp2_with fail
                rw [rounds_succ]
                rcases three (p.origin) 0 65535 with ⟨h1, d1⟩ | ⟨h1, d1, d2⟩ | ⟨a7, b7, da7, db7⟩
                · go_wp2_with fail
                  go_ret
                  exact ⟨ret_int (by rw [Hchk.out, if_neg (by unfold okP; omega)]), (((((((((((Below.refl w.heap.size w).alloc (Nat.le_refl _) _).alloc (by simp <;> omega) _).alloc (by simp <;> omega) _).alloc (by simp <;> omega) _).alloc (by simp <;> omega) _).alloc (by simp <;> omega) _).alloc (by simp <;> omega) _).alloc (by simp <;> omega) _).alloc (by simp <;> omega) _).alloc (by simp <;> omega) _)⟩
                · go_wp2_with fail
                  go_ret
                  exact ⟨ret_int (by rw [Hchk.out, if_neg (by unfold okP; omega)]), (((((((((((Below.refl w.heap.size w).alloc (Nat.le_refl _) _).alloc (by simp <;> omega) _).alloc (by simp <;> omega) _).alloc (by simp <;> omega) _).alloc (by simp <;> omega) _).alloc (by simp <;> omega) _).alloc (by simp <;> omega) _).alloc (by simp <;> omega) _).alloc (by simp <;> omega) _).alloc (by simp <;> omega) _)⟩
                · go_wp2_with fail
                  rw [rounds_succ]
                  by_cases he : p.src = p.dst
                  · have de : (p.src == p.dst) = true := by rw [beq_iff_eq]; exact he
                    have He := Lib.hid he
                    clear he
                    go_wp2_with fail
                    go_ret
                    exact ⟨ret_int (by rw [Hchk.out, if_neg (fun h => h.2.2.1 He.out)]), (((((((((((Below.refl w.heap.size w).alloc (Nat.le_refl _) _).alloc (by simp <;> omega) _).alloc (by simp <;> omega) _).alloc (by simp <;> omega) _).alloc (by simp <;> omega) _).alloc (by simp <;> omega) _).alloc (by simp <;> omega) _).alloc (by simp <;> omega) _).alloc (by simp <;> omega) _).alloc (by simp <;> omega) _)⟩
                  · have de : (p.src == p.dst) = false := by rw [beq_eq_false_iff_ne]; exact he
                    have He := Lib.hid he
                    clear he
                    by_cases hl : n ≤ 128
                    · have dl : decide (128 < n) = false := decide_eq_false (by omega)
                      go_wp2_with fail
                      go_ret
                      exact ⟨ret_int (by rw [Hchk.out, if_pos ⟨⟨by assumption, by assumption⟩, ⟨by assumption, by assumption⟩, He.out, ⟨by assumption, by assumption⟩, ⟨by assumption, by assumption⟩, ⟨by assumption, by assumption⟩, ⟨by assumption, by assumption⟩, ⟨by assumption, by assumption⟩, ⟨by assumption, by assumption⟩, by rw [← Hn.out]; exact hl⟩]), (((((((((((Below.refl w.heap.size w).alloc (Nat.le_refl _) _).alloc (by simp <;> omega) _).alloc (by simp <;> omega) _).alloc (by simp <;> omega) _).alloc (by simp <;> omega) _).alloc (by simp <;> omega) _).alloc (by simp <;> omega) _).alloc (by simp <;> omega) _).alloc (by simp <;> omega) _).alloc (by simp <;> omega) _)⟩
                    · have dl : decide (128 < n) = true := decide_eq_true (by omega)
                      go_wp2_with fail
                      go_ret
                      exact ⟨ret_int (by rw [Hchk.out, if_neg (fun h => hl (by rw [Hn.out]; exact h.2.2.2.2.2.2.2.2.2))]), (((((((((((Below.refl w.heap.size w).alloc (Nat.le_refl _) _).alloc (by simp <;> omega) _).alloc (by simp <;> omega) _).alloc (by simp <;> omega) _).alloc (by simp <;> omega) _).alloc (by simp <;> omega) _).alloc (by simp <;> omega) _).alloc (by simp <;> omega) _).alloc (by simp <;> omega) _).alloc (by simp <;> omega) _)⟩
end Go.Proofs.Ytjpdamighffgfaa.pk
