/- SeqClipped: for every input the law answers true and leaves its arguments as they were. -/
import Derived.Test.YtbkhhcjpcobkkaaRows
import Derived.Test.YtbkhhcjpcobkkaaSeqC
import Derived.Test.YtbkhhcjpcobkkaaSpan
import Derived.ProofKit
import Derived.OpenShut
import Derived.ShutString
import Derived.ChangeOld
namespace Go.Proofs.Ytbkhhcjpcobkkaa.seqClippedDone
open Go.RowKit Mem sq
set_option linter.unusedVariables false
theorem bcell {W w1 : World} (hb : Below W.heap.size W w1) : ∀ b o, b < W.heap.size → w1.cell? ⟨b, o, none⟩ = W.cell? ⟨b, o, none⟩ :=
  fun b o h => hb.cell (p := ⟨b, o, none⟩) h
set_option maxHeartbeats 8000000 in
theorem walk (S n f m at_ : Int) (w : World) (hS : (Lit.int .u32 S).wf = true) (hn : (Lit.int .i64 n).wf = true) (hf : (Lit.int .u32 f).wf = true) (hm : (Lit.int .i64 m).wf = true) (ha : (Lit.int .i64 at_).wf = true) :
    Calls Try.prog 9 #[.agg #[.int .u32 S, .int .i64 n], .int .u32 f, .int .i64 m, .int .i64 at_] w fun e w' => e = .returned (.bool true) ∧ Below w.heap.size w w' := by
  obtain ⟨n0, n1⟩ := int_wf hn
  obtain ⟨m0, m1⟩ := int_wf hm
  clear hS hn hf hm ha
  have hbd := clip_bd S n f m
  have hdb := dif_bd S f
  have b1 : decide (clipA S n f m < 0) = false := decide_eq_false (by omega)
  have b2 : decide (clipK S n f m < 0) = false := decide_eq_false (by omega)
  have hcl := clip_any S n f m
  have HCL := Lib.hid hcl
  clear hcl
  have hk : (decide (0 < clipK S n f m) = true ∧ IntKind.i64.wrap (n - clipK S n f m) = n - clipK S n f m ∧ decide (n - clipK S n f m < clipA S n f m) = false ∧ decide (m < clipK S n f m) = false) ∨ decide (0 < clipK S n f m) = false := by
    by_cases h : 0 < clipK S n f m
    · have := hbd.2.2.2 h
      exact Or.inl ⟨decide_eq_true h, IntWalk.i64_in _ (by omega), decide_eq_false (by omega), decide_eq_false (by omega)⟩
    · exact Or.inr (decide_eq_false h)
  have hbd2 : 0 ≤ clipA S n f m ∧ clipA S n f m ≤ 2147483647 ∧ 0 ≤ clipK S n f m ∧ (clipK S n f m ≤ m ∨ clipK S n f m ≤ 0) := by have := hbd.2.2.2; omega
  clear hbd
  rcases hk with ⟨k1, k2, k3, k4⟩ | k1
  all_goals
    go_enter Try.func9, Try.ntmps9
    go_wp2_with fail
    refine (HCL.out _ (by omega) (by omega)).mono ?_
    rintro e w1 ⟨rfl, hb1⟩
    have hc0 : w1.cell? ⟨w.heap.size, 0, none⟩ = some (.int .u32 S) := by rw [bcell hb1 _ _ (by simp)]; simp
    have hc1 : w1.cell? ⟨w.heap.size, 1, none⟩ = some (.int .i64 n) := by rw [bcell hb1 _ _ (by simp)]; simp
    have hs : w.heap.size < w1.heap.size := by have := hb1.size; simp at this; omega
    have hb01 : Below w.heap.size w w1 := ((Below.refl _ _).alloc (Nat.le_refl _) _).trans (hb1.mono (by simp))
    clear hb1
    go_wp2_with fail
    refine (diff_any _ _ _).mono ?_
    rintro e w' ⟨rfl, rfl⟩
    by_cases h1 : 1073741824 < n
    · have dh1 : decide (1073741824 < n) = true := decide_eq_true h1
      go_wp2_with (first
          | (go_at_call 15; refine (diff_any _ _ _).mono ?_; rintro e w' ⟨rfl, rfl⟩)
          | (go_at_call 13; refine (add_any _ _ _).mono ?_; rintro e w' ⟨rfl, rfl⟩)
          | (go_at_call 17; refine (awake_any _).mono ?_; rintro e w4 ⟨rfl, hb4⟩))
      go_ret
      exact ⟨rfl, hb01.trans (hb4.mono (Nat.le_of_lt hs))⟩
    · have dh1 : decide (1073741824 < n) = false := decide_eq_false h1
      by_cases h2 : 1073741824 < m
      · have dh2 : decide (1073741824 < m) = true := decide_eq_true h2
        go_wp2_with (first
            | (go_at_call 15; refine (diff_any _ _ _).mono ?_; rintro e w' ⟨rfl, rfl⟩)
            | (go_at_call 13; refine (add_any _ _ _).mono ?_; rintro e w' ⟨rfl, rfl⟩)
            | (go_at_call 17; refine (awake_any _).mono ?_; rintro e w4 ⟨rfl, hb4⟩))
        go_ret
        exact ⟨rfl, hb01.trans (hb4.mono (Nat.le_of_lt hs))⟩
      · have dh2 : decide (1073741824 < m) = false := decide_eq_false h2
        by_cases h3 : n < 1
        · have dh3 : decide (n < 1) = true := decide_eq_true h3
          go_wp2_with (first
              | (go_at_call 15; refine (diff_any _ _ _).mono ?_; rintro e w' ⟨rfl, rfl⟩)
              | (go_at_call 13; refine (add_any _ _ _).mono ?_; rintro e w' ⟨rfl, rfl⟩)
              | (go_at_call 17; refine (awake_any _).mono ?_; rintro e w4 ⟨rfl, hb4⟩))
          go_ret
          exact ⟨rfl, hb01.trans (hb4.mono (Nat.le_of_lt hs))⟩
        · have dh3 : decide (n < 1) = false := decide_eq_false h3
          by_cases h4 : m < 1
          · have dh4 : decide (m < 1) = true := decide_eq_true h4
            go_wp2_with (first
                | (go_at_call 15; refine (diff_any _ _ _).mono ?_; rintro e w' ⟨rfl, rfl⟩)
                | (go_at_call 13; refine (add_any _ _ _).mono ?_; rintro e w' ⟨rfl, rfl⟩)
                | (go_at_call 17; refine (awake_any _).mono ?_; rintro e w4 ⟨rfl, hb4⟩))
            go_ret
            exact ⟨rfl, hb01.trans (hb4.mono (Nat.le_of_lt hs))⟩
          · have dh4 : decide (m < 1) = false := decide_eq_false h4
            by_cases h5 : 1073741824 < dif S f
            · have dh5 : decide (1073741824 < dif S f) = true := decide_eq_true h5
              go_wp2_with (first
                  | (go_at_call 15; refine (diff_any _ _ _).mono ?_; rintro e w' ⟨rfl, rfl⟩)
                  | (go_at_call 13; refine (add_any _ _ _).mono ?_; rintro e w' ⟨rfl, rfl⟩)
                  | (go_at_call 17; refine (awake_any _).mono ?_; rintro e w4 ⟨rfl, hb4⟩))
              go_ret
              exact ⟨rfl, hb01.trans (hb4.mono (Nat.le_of_lt hs))⟩
            · have dh5 : decide (1073741824 < dif S f) = false := decide_eq_false h5
              by_cases h6 : dif S f < -1073741824
              · have dh6 : decide (dif S f < -1073741824) = true := decide_eq_true h6
                go_wp2_with (first
                    | (go_at_call 15; refine (diff_any _ _ _).mono ?_; rintro e w' ⟨rfl, rfl⟩)
                    | (go_at_call 13; refine (add_any _ _ _).mono ?_; rintro e w' ⟨rfl, rfl⟩)
                    | (go_at_call 17; refine (awake_any _).mono ?_; rintro e w4 ⟨rfl, hb4⟩))
                go_ret
                exact ⟨rfl, hb01.trans (hb4.mono (Nat.le_of_lt hs))⟩
              · have dh6 : decide (dif S f < -1073741824) = false := decide_eq_false h6
                have hbw : IntKind.u64.wrap n = n := by rw [IntKind.wrap_u64]; omega
                have wu : 0 ≤ IntKind.u64.wrap at_ := by rw [IntKind.wrap_u64]; omega
                obtain ⟨i, hi⟩ : ∃ i, i = (IntKind.u64.wrap at_).tmod n := ⟨_, rfl⟩
                have hi2 : 0 ≤ i ∧ i < n := by rw [hi, Int.tmod_eq_emod_of_nonneg wu]; exact ⟨Int.emod_nonneg _ (by omega), Int.emod_lt_of_pos _ (by omega)⟩
                have e1 : wrap64 ((IntKind.u64.wrap at_).tmod n) = i := by rw [← hi]; unfold wrap64; omega
                have hz : (n == 0) = false := by rw [beq_eq_false_iff_ne]; omega
                have hz2 : ¬ n = 0 := by omega
                have hcl := clipped S n f m i (by omega) (by omega) (by omega) (by omega) (by omega) (by omega) (by omega) (by omega)
                have e2 : IntKind.i64.wrap (clipA S n f m + clipK S n f m) = clipA S n f m + clipK S n f m := IntWalk.i64_in _ (by omega)
                have l1 : ∀ w, Calls Try.prog 20 #[.int .u32 (adz S i), .int .u32 f, .int .i64 m] w fun e w' => e = .returned (.bool (decide (clipA S n f m ≤ i ∧ i < clipA S n f m + clipK S n f m))) ∧ w = w' := fun w => by rw [← hcl]; exact in_any _ f m w (by omega) (by omega)
                clear hi hcl wu
                generalize clipA S n f m = X at *
                generalize clipK S n f m = Y at *
                have hXY : ∃ p r : Bool, decide (X ≤ i) = p ∧ decide (i < X + Y) = r ∧ decide (X ≤ i ∧ i < X + Y) = (p && r) := ⟨_, _, rfl, rfl, by simp⟩
                obtain ⟨p, r, hp, hr, hpr⟩ := hXY
                rw [hpr] at l1
                have L1 := Lib.hid l1
                clear l1 hpr
                cases p <;> cases r
                all_goals
                  go_wp2_with (first
                    | (go_at_call 20; refine (L1.out _).mono ?_; rintro e w' ⟨rfl, rfl⟩)
                    | (go_at_call 13; refine (add_any _ _ _).mono ?_; rintro e w' ⟨rfl, rfl⟩)
                    | (go_at_call 17; refine (awake_any _).mono ?_; rintro e w4 ⟨rfl, hb4⟩))
                  go_ret
                  exact ⟨rfl, hb01.trans (hb4.mono (Nat.le_of_lt hs))⟩
end Go.Proofs.Ytbkhhcjpcobkkaa.seqClippedDone
namespace Go.Proofs.Ytbkhhcjpcobkkaa.seqClippedDone
open Go.ChangeShapes Go.WideShapes Go.ChangeAt Go.RowKit Mem sq
set_option linter.unusedVariables false
theorem own : ownKnob Try.prog.godebug = none := by kernel_rfl
theorem laidOut : laidOutB Try.prog = true := by kernel_rfl
set_option maxRecDepth 100000 in
theorem lifted (os : Os) (started : os.Started) (H : Type) (enc : TypeId × Value → H) :
    ReturnsInHanded {} Try.checked os 9 .any (Rows.seqClippedSpec.pre6 enc Try.prog Try.f9 Rows.seqClippedRow.domain false) (Rows.seqClippedSpec.post enc Try.prog Try.f9 false true false false) := by
  refine returnsInHanded_of_change (C := Try.checked) own started (by kernel_rfl) Try.func9
    (ChangeSpec.witness6 (enc := enc) (C := Try.checked) false ⟨#[], #[.agg #[.int .u32 0, .int .i64 0], .int .u32 0, .int .i64 0, .int .i64 0], []⟩ 8 (by kernel_rfl) (by kernel_rfl) (by kernel_rfl) (by kernel_rfl)) ?_
  intro W base args ds gs before hval0 hW hcnd _
  have hval : ∀ (j : Nat) t v, Try.f9.params[j]? = some t → args[j]? = some v → Value.okWide Try.prog W .any base t v := hval0
  have hW' := hW
  obtain ⟨p, q, hA0, hV, rfl, hfz, hnd⟩ := hW
  have hA : DataW.TrodAll enc Try.prog W 0 (fun _ => true) true Try.f9.params.toList args.toList ds p := hA0
  rw [Try.params9] at hA hval
  obtain ⟨v0, vs0, d0, ds0, p0, q0, hargs, rfl, rfl, h0, r0⟩ := trodAll_cons hA
  obtain ⟨v1, vs1, d1, ds1, p1, q1, rfl, rfl, rfl, h1, r1⟩ := trodAll_cons r0
  obtain ⟨v2, vs2, d2, ds2, p2, q2, rfl, rfl, rfl, h2, r2⟩ := trodAll_cons r1
  obtain ⟨v3, vs3, d3, ds3, p3, q3, rfl, rfl, rfl, h3, r3⟩ := trodAll_cons r2
  obtain ⟨rfl, rfl, rfl⟩ := trodAll_nil r3
  obtain rfl : args = #[v0, v1, v2, v3] := by cases args; simp_all
  obtain ⟨rfl, rfl⟩ := trodVars_none hV
  obtain ⟨x0, y0, rfl, rfl, wx0, wy0, back0⟩ := open_span (hval 0 29 v0 rfl rfl) h0
  obtain ⟨a1, rfl, rfl, rfl, w1⟩ := open_int Try.underlying22 (hval 1 22 v1 rfl rfl) h1
  obtain ⟨a2, rfl, rfl, rfl, w2⟩ := open_int Try.underlying3 (hval 2 3 v2 rfl rfl) h2
  obtain ⟨a3, rfl, rfl, rfl, w3⟩ := open_int Try.underlying3 (hval 3 3 v3 rfl rfl) h3
  clear hA0 hval0
  refine (walk x0 y0 a1 a2 a3 W wx0 wy0 w1 w2 w3).mono fun e W' ⟨he, bel⟩ => ?_
  subst he
  exact ⟨_, rfl, _, _, _, [], _, [], hW', trodAll_mk1 (shut_bool Try.underlying4 _), (trodAll_cons_mk (back0 _ _ _ _) (trodAll_cons_mk (shut_int Try.underlying22 w1) (trodAll_cons_mk (shut_int Try.underlying3 w2) (trodAll_cons_mk (shut_int Try.underlying3 w3) trodAll_mk0)))), rfl, bel.frame _, fun h => by cases h⟩

theorem over : Rows.seqClippedRow.holds Try.pinned (OpenSpec.ofChange Rows.seqClippedSpec) :=
  OpenClaim.holds_of_wide 9 Try.f9 rfl rfl rfl rfl rfl rfl rfl ⟨rfl, rfl, rfl, rfl, rfl⟩ rfl rfl rfl rfl rfl (by kernel_rfl) Try.func9 (by kernel_rfl)
    (of_decide_eq_true (by kernel_rfl)) (by unfold Func.isWrapper; first | (rw [if_pos (by decide +kernel)]; kernel_rfl) | (rw [if_neg (by decide +kernel)]; exact ⟨rfl, rfl⟩))
    (fun os started H enc _ => lifted os started H enc)
/-- the given statement -/
theorem proved : Rows.SeqClippedSaid := over
#print axioms proved
end Go.Proofs.Ytbkhhcjpcobkkaa.seqClippedDone
