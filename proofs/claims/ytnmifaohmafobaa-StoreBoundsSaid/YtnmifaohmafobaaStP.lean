/- A region that draws its order, in a round of a range over a function: by the laws for plain code. -/
import Derived.Test.YtnmifaohmafobaaStL
namespace Go.Proofs.Ytnmifaohmafobaa.st
open Go.RowKit Mem SM
set_option linter.unusedVariables false
section
variable {P : Program} {ops : Array Oper} {Q : Exit → Act → World → Prop} {md : Region.Mode}
/-- the post of a region that ends as it should -/
def Well (Q : Exit → Act → World → Prop) : Exit → Act → World → Prop := fun e a w => e = .normal ∧ Q .normal a w
theorem well_out : ¬ LetsOut (Well Q) := fun ⟨a, w, h, _⟩ => by cases h
def noDefer (o : Oper) : Bool := match o.op with
  | .defer _ => false
  | _ => true
theorem round_op {o : Oper} (l n : Nat) (hd : noDefer o = true) {a : Act} {w : World} {K : Act → World → Prop} (h : o.wp P a w K (Well Q)) : o.wpIn (Fence.wide.inRound l) n P a w K Q := by
  have hs : (o.semAt (Fence.wide.inRound l).round a.eval) = execOp a.eval o := Oper.semAt_eq _ _ _ (fun c e => by unfold noDefer at hd; rw [e] at hd; cases hd)
  refine ⟨fun f _ => trivial, ?_⟩
  rw [hs]
  unfold Oper.wp at h
  cases hr : (execOp a.eval o).run P w with
  | halt x w' =>
    rw [hr] at h
    cases x with
    | panic v => exact absurd h.1 (by intro e; cases e)
    | _ => exact h
  | ok nx w' =>
    rw [hr] at h
    cases nx with
    | value v => exact h
    | skip => exact h
    | defer d => exact h
    | enter f args =>
      refine ⟨fun hh => by simp [Fence.wide] at hh, CallsIn.inRound l (callsIn_wide.2 (h.mono ?_))⟩
      intro e w'' he
      cases e with
      | returned v => exact he
      | panicked c => exact absurd he.1 (by intro e; cases e)
      | outgrown => exact absurd he well_out
    | row row args =>
      refine ⟨fun hh => by simp [Fence.wide] at hh, fun c cs _ => ?_⟩
      obtain ⟨v, w', r, st⟩ := h c cs
      exact ⟨v, w', r, stepsIn_wide.2 st⟩
    | _ => exact h.elim
theorem round_any (l n : Nat) (hd : ∀ (i : Nat) (o : Oper), ops[i]? = some o → noDefer o = true) : ∀ (fuel : Nat) (listed : Array Bool) (a : Act) (w : World), wpAny P md ops (Well Q) fuel listed a w → wpAnyIn (Fence.wide.inRound l) n P md ops Q fuel listed a w
  | 0, _, _, _, h => ⟨h.1, h.2.2⟩
  | fuel + 1, listed, a, w, h => ⟨fun e => (h.1 e).2, fun i hi => by
      have h1 := h.2 i hi
      unfold wpOp at h1
      unfold wpOpIn
      cases ho : ops[i]? with
      | none =>
        rw [ho] at h1
        exact round_any l n hd fuel _ a w h1
      | some o =>
        rw [ho] at h1
        simp only at h1 ⊢
        by_cases hw : Region.wanted o (yielded ops a.tmps) = true
        · rw [if_pos hw] at h1 ⊢
          rcases h1 with h1 | h1
          · exact Oper.wpIn_mono (fun a' w' hk => round_any l n hd fuel _ a' w' hk) (round_op l n (hd i o ho) h1)
          · exact absurd h1.2 well_out
        · rw [if_neg hw] at h1 ⊢
          exact ⟨fun _ _ => trivial, round_any l n hd fuel _ _ w h1⟩⟩
/-- the whole region -/
theorem round_region {id : Nat} {a : Act} {w : World} {S : World → Prop} (l n : Nat) (hm : P.follows .mixedOrders = true) (hd : (ops.toList.all noDefer) = true) (hS : S w.drew)
    (h : S w.drew → wpAnyH P .any ops (Well Q) S ops.size (Array.replicate ops.size false) a w.drew) : (Code.region id ops true).wpIn (Fence.wide.inRound l) n P Q a w :=
  wpIn_region_any hm (round_any l n (fun i o ho => List.all_eq_true.1 hd o (by rw [Array.mem_toList_iff]; exact Array.mem_of_getElem? ho)) _ _ _ _ (wpAny_of_held _ _ _ _ (h hS)))
end
end Go.Proofs.Ytnmifaohmafobaa.st
