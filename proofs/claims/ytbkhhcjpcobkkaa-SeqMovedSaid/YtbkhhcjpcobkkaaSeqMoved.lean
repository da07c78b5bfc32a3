/- SeqMoved: for every input the law answers true and leaves its arguments as they were. -/
import Derived.Test.YtbkhhcjpcobkkaaRows
import Derived.Test.YtbkhhcjpcobkkaaSeqC
import Derived.Test.YtbkhhcjpcobkkaaSpan
import Derived.ProofKit
import Derived.OpenShut
import Derived.ShutString
import Derived.ChangeOld
namespace Go.Proofs.Ytbkhhcjpcobkkaa.seqMovedDone
open Go.RowKit Mem sq
set_option linter.unusedVariables false
theorem bcell {W w1 : World} (hb : Below W.heap.size W w1) : ∀ b o, b < W.heap.size → w1.cell? ⟨b, o, none⟩ = W.cell? ⟨b, o, none⟩ :=
  fun b o h => hb.cell (p := ⟨b, o, none⟩) h
theorem add_still (a n : Int) (w : World) : Calls Try.prog 13 #[.int .u32 a, .int .i64 n] w fun e w' => e = .returned (.int .u32 (adz a n)) ∧ w' = w :=
  (add_any a n w).mono fun _ _ ⟨h, e⟩ => ⟨h, e.symm⟩
theorem in_still (x f s : Int) (w : World) (s0 : -9223372036854775808 ≤ s) (s1 : s ≤ 9223372036854775807) :
    Calls Try.prog 20 #[.int .u32 x, .int .u32 f, .int .i64 s] w fun e w' => e = .returned (.bool (inB x f s)) ∧ w' = w :=
  (in_any x f s w s0 s1).mono fun _ _ ⟨h, e⟩ => ⟨h, e.symm⟩
theorem in_still' (x f s d : Int) (w : World) (s0 : -9223372036854775808 ≤ s) (s1 : s ≤ 9223372036854775807) :
    Calls Try.prog 20 #[.int .u32 (adz x d), .int .u32 (adz f d), .int .i64 s] w fun e w' => e = .returned (.bool (inB x f s)) ∧ w' = w := by
  rw [← inB_moved x f s d]; exact in_still _ _ s w s0 s1
theorem clip_moved (S n f m d : Int) (w : World) (n1 : n ≤ 9223372036854775807) (m1 : m ≤ 9223372036854775807) :
    Calls Try.prog 22 #[.agg #[.int .u32 (adz S d), .int .i64 n], .int .u32 (adz f d), .int .i64 m] w (ClipPost S n f m w) :=
  (clip_any (adz S d) n (adz f d) m w n1 m1).mono fun e w' ⟨h, hb⟩ => ⟨by rw [h, clipA_moved, clipK_moved], hb⟩
/-- what stays of the world: it lies above w, and w's blocks are as they were -/
def Kp (w w' : World) : Prop := w.heap.size < w'.heap.size ∧ Below w.heap.size w w'
theorem clip_kept (S n f m d : Int) (w0 w : World) (n1 : n ≤ 9223372036854775807) (m1 : m ≤ 9223372036854775807) (x y : Value)
    (hc0 : w.cell? ⟨w0.heap.size, 0, none⟩ = some x) (hc1 : w.cell? ⟨w0.heap.size, 1, none⟩ = some y) (hk : Kp w0 w) :
    Calls Try.prog 22 #[.agg #[.int .u32 (adz S d), .int .i64 n], .int .u32 (adz f d), .int .i64 m] w fun e w' =>
      e = .returned (.tuple #[.int .i64 (clipA S n f m), .int .i64 (clipK S n f m)]) ∧ w'.cell? ⟨w0.heap.size, 0, none⟩ = some x ∧ w'.cell? ⟨w0.heap.size, 1, none⟩ = some y ∧ Kp w0 w' :=
  (clip_moved S n f m d w n1 m1).mono fun e w' ⟨h, hb⟩ =>
    ⟨h, (bcell hb _ _ hk.1).trans hc0, (bcell hb _ _ hk.1).trans hc1, Nat.lt_of_lt_of_le hk.1 hb.size, hk.2.trans (hb.mono (Nat.le_of_lt hk.1))⟩
set_option maxHeartbeats 4000000 in
theorem walk (S n f m d : Int) (w : World) (hS : (Lit.int .u32 S).wf = true) (hn : (Lit.int .i64 n).wf = true) (hf : (Lit.int .u32 f).wf = true) (hm : (Lit.int .i64 m).wf = true) (hd : (Lit.int .i64 d).wf = true) :
    Calls Try.prog 11 #[.agg #[.int .u32 S, .int .i64 n], .int .u32 f, .int .i64 m, .int .i64 d] w fun e w' => e = .returned (.bool true) ∧ Below w.heap.size w w' := by
  obtain ⟨n0, n1⟩ := int_wf hn
  obtain ⟨m0, m1⟩ := int_wf hm
  clear hS hn hf hm hd
  go_enter Try.func11, Try.ntmps11
  go_wp2_with fail
  refine (clip_any S n f m _ (by omega) (by omega)).mono ?_
  rintro e w1 ⟨rfl, hb1⟩
  have hc0 : w1.cell? ⟨w.heap.size, 0, none⟩ = some (.int .u32 S) := by rw [bcell hb1 _ _ (by simp)]; simp
  have hc1 : w1.cell? ⟨w.heap.size, 1, none⟩ = some (.int .i64 n) := by rw [bcell hb1 _ _ (by simp)]; simp
  have hs : w.heap.size < w1.heap.size := by have := hb1.size; simp at this; omega
  have hb01 : Below w.heap.size w w1 := ((Below.refl _ _).alloc (Nat.le_refl _) _).trans (hb1.mono (by simp))
  clear hb1
  go_wp2_with fail
  have hkp : Kp w w1 := ⟨hs, hb01⟩
  have hkd : Kp w w1.drew := ⟨hs, below_drewN hb01 1⟩
  clear hs hb01
  go_region_held3 (fun w' => w'.cell? ⟨w.heap.size, 0, none⟩ = some (.int .u32 S) ∧ w'.cell? ⟨w.heap.size, 1, none⟩ = some (.int .i64 n) ∧ Kp w w') (first | exact ⟨hc0, hc1, hkp.1, below_drewN hkp.2 1⟩ | assumption | (refine ⟨?_, ?_, ?_⟩ <;> assumption))
    (first
      | (go_at_call 13; refine (add_any _ _ _).mono ?_; rintro e w' ⟨rfl, rfl⟩)
      | (go_at_call 22; refine (clip_kept S n f m d w _ (by omega) (by omega) (.int .u32 S) (.int .i64 n) (by assumption) (by assumption) (by assumption)).mono ?_; rintro e w2 ⟨rfl, hd0, hd1, hkp2⟩))
  all_goals
    have hs2 := hkp2.1
    go_wp2_with fail
    refine wp_region_still_tail 26 (by kernel_rfl) (by kernel_rfl) ?_
    simp only [List.take_succ_cons, List.take_zero, List.drop_succ_cons, List.drop_zero]
    repeat still_step
    still_call in_still _ _ _ _ (by omega) (by omega)
    repeat still_step
    still_call add_still _ _ _
    repeat still_step
    still_call add_still _ _ _
    repeat still_step
    still_call in_still' _ _ _ _ _ (by omega) (by omega)
    repeat still_step
    refine wpStill_nil ?_
    change wpList _ _ _ _ _ w2.drew
    go_wp2_with fail
    refine (awake_any _).mono ?_
    rintro e w4 ⟨rfl, hb4⟩
    go_wp2
    go_ret
    exact ⟨rfl, (below_drewN hkp2.2 1).trans (hb4.mono (by simp; omega))⟩
end Go.Proofs.Ytbkhhcjpcobkkaa.seqMovedDone
namespace Go.Proofs.Ytbkhhcjpcobkkaa.seqMovedDone
open Go.ChangeShapes Go.WideShapes Go.ChangeAt Go.RowKit Mem sq
set_option linter.unusedVariables false
theorem own : ownKnob Try.prog.godebug = none := by kernel_rfl
theorem laidOut : laidOutB Try.prog = true := by kernel_rfl
set_option maxRecDepth 100000 in
theorem lifted (os : Os) (started : os.Started) (H : Type) (enc : TypeId × Value → H) :
    ReturnsInHanded {} Try.checked os 11 .any (Rows.seqMovedSpec.pre6 enc Try.prog Try.f11 Rows.seqMovedRow.domain false) (Rows.seqMovedSpec.post enc Try.prog Try.f11 false true false false) := by
  refine returnsInHanded_of_change (C := Try.checked) own started (by kernel_rfl) Try.func11
    (ChangeSpec.witness6 (enc := enc) (C := Try.checked) false ⟨#[], #[.agg #[.int .u32 0, .int .i64 0], .int .u32 0, .int .i64 0, .int .i64 0], []⟩ 8 (by kernel_rfl) (by kernel_rfl) (by kernel_rfl) (by kernel_rfl)) ?_
  intro W base args ds gs before hval0 hW hcnd _
  have hval : ∀ (j : Nat) t v, Try.f11.params[j]? = some t → args[j]? = some v → Value.okWide Try.prog W .any base t v := hval0
  have hW' := hW
  obtain ⟨p, q, hA0, hV, rfl, hfz, hnd⟩ := hW
  have hA : DataW.TrodAll enc Try.prog W 0 (fun _ => true) true Try.f11.params.toList args.toList ds p := hA0
  rw [Try.params11] at hA hval
  obtain ⟨v0, vs0, d0, ds0, p0, q0, hargs, rfl, rfl, h0, r0⟩ := trodAll_cons hA
  obtain ⟨v1, vs1, d1, ds1, p1, q1, rfl, rfl, rfl, h1, r1⟩ := trodAll_cons r0
  obtain ⟨v2, vs2, d2, ds2, p2, q2, rfl, rfl, rfl, h2, r2⟩ := trodAll_cons r1
  obtain ⟨v3, vs3, d3, ds3, p3, q3, rfl, rfl, rfl, h3, r3⟩ := trodAll_cons r2
  obtain ⟨rfl, rfl, rfl⟩ := trodAll_nil r3
  obtain rfl : args = #[v0, v1, v2, v3] := by cases args; simp_all
  obtain ⟨rfl, rfl⟩ := trodVars_none hV
  obtain ⟨x0, y0, rfl, rfl, wx0, wy0, back0⟩ := open_span (hval 0 29 v0 rfl rfl) h0
  obtain ⟨a1, rfl, rfl, rfl, w1⟩ := open_int Try.underlying22 (hval 1 22 v1 rfl rfl) h1
  obtain ⟨a2, rfl, rfl, rfl, w2⟩ := open_int Try.underlying3 (hval 2 3 v2 rfl rfl) h2
  obtain ⟨a3, rfl, rfl, rfl, w3⟩ := open_int Try.underlying3 (hval 3 3 v3 rfl rfl) h3
  clear hA0 hval0
  refine (walk x0 y0 a1 a2 a3 W wx0 wy0 w1 w2 w3).mono fun e W' ⟨he, bel⟩ => ?_
  subst he
  exact ⟨_, rfl, _, _, _, [], _, [], hW', trodAll_mk1 (shut_bool Try.underlying4 _), (trodAll_cons_mk (back0 _ _ _ _) (trodAll_cons_mk (shut_int Try.underlying22 w1) (trodAll_cons_mk (shut_int Try.underlying3 w2) (trodAll_cons_mk (shut_int Try.underlying3 w3) trodAll_mk0)))), rfl, bel.frame _, fun h => by cases h⟩

theorem over : Rows.seqMovedRow.holds Try.pinned (OpenSpec.ofChange Rows.seqMovedSpec) :=
  OpenClaim.holds_of_wide 11 Try.f11 rfl rfl rfl rfl rfl rfl rfl ⟨rfl, rfl, rfl, rfl, rfl⟩ rfl rfl rfl rfl rfl (by kernel_rfl) Try.func11 (by kernel_rfl)
    (of_decide_eq_true (by kernel_rfl)) (by unfold Func.isWrapper; first | (rw [if_pos (by decide +kernel)]; kernel_rfl) | (rw [if_neg (by decide +kernel)]; exact ⟨rfl, rfl⟩))
    (fun os started H enc _ => lifted os started H enc)
/-- the given statement -/
theorem proved : Rows.SeqMovedSaid := over
#print axioms proved
end Go.Proofs.Ytbkhhcjpcobkkaa.seqMovedDone
