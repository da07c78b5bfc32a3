/- Layer 7 as functions: the longest stretch ahead of a place, tokens, what tokens tell. No program is named here. -/
import Derived.Test.YtbcgnacfhpahkaaDoorOctLook
namespace Go.Proofs.YtbcgnacfhpahkaaDoor.LM
open OM
/-- with how many same bytes both begin -/
def com : List UInt8 → List UInt8 → Nat
  | x :: a, y :: b => if x = y then com a b + 1 else 0
  | _, _ => 0
theorem com_le : ∀ (a b : List UInt8), com a b ≤ a.length ∧ com a b ≤ b.length
  | [], b => by simp [com]
  | _ :: _, [] => by simp [com]
  | x :: a, y :: b => by
    have := com_le a b
    simp only [com, List.length_cons]
    split <;> omega
theorem com_at : ∀ (a b : List UInt8) (i : Nat), i < com a b → a[i]? = b[i]?
  | [], b, i, h => by simp [com] at h
  | _ :: _, [], i, h => by simp [com] at h
  | x :: a, y :: b, i, h => by
    simp only [com] at h
    split at h
    · rename_i e
      cases i with
      | zero => simp [e]
      | succ i => simpa using com_at a b i (by omega)
    · omega
theorem com_stop : ∀ (a b : List UInt8), com a b < a.length → com a b < b.length → a[com a b]? ≠ b[com a b]?
  | [], b, h, _ => by simp [com] at h
  | _ :: _, [], _, h => by simp [com] at h
  | x :: a, y :: b, h, h2 => by
    simp only [com] at h h2 ⊢
    split
    · rename_i e
      rw [if_pos e] at h h2
      have := com_stop a b (by simpa using h) (by simpa using h2)
      simpa using this
    · rename_i e
      simpa using e
/-- it is so many, if so many are the same, and the next ones are not, or there is none -/
theorem com_eq (a b : List UInt8) (k : Nat) (ha : k ≤ a.length) (hb : k ≤ b.length) (h : ∀ i, i < k → a[i]? = b[i]?) (h2 : k = b.length ∨ (k < a.length ∧ k < b.length ∧ a[k]? ≠ b[k]?)) : com a b = k := by
  have h3 := com_le a b
  rcases Nat.lt_trichotomy (com a b) k with h4 | h4 | h4
  · exact absurd (h _ h4) (com_stop a b (by omega) (by omega))
  · exact h4
  · rcases h2 with h5 | ⟨_, _, h5⟩
    · omega
    · exact absurd (com_at a b k h4) h5
/-- the bytes that a stretch at e may have -/
def nxt (B : List UInt8) (e : Nat) : List UInt8 := (B.drop e).take 66
theorem nxt_len (B : List UInt8) (e : Nat) : (nxt B e).length = min 66 (B.length - e) := by simp [nxt]
def ali (B : List UInt8) (e back : Nat) : Nat := com (B.drop (e - back)) (nxt B e)
/-- of the first m ways back the best one: how many bytes, how far back -/
def best (B : List UInt8) (e : Nat) : Nat → Nat × Nat
  | 0 => (0, 0)
  | m + 1 => if (best B e m).1 < ali B e (m + 1) then (ali B e (m + 1), m + 1) else best B e m
def worth (r : Nat × Nat) : Nat × Nat := if r.1 < 3 then (0, 0) else r
def longest (B : List UInt8) (e : Nat) : Nat × Nat := worth (best B e (min 512 e))
theorem best_len (B : List UInt8) (e : Nat) : ∀ m, (best B e m).1 ≤ (nxt B e).length
  | 0 => by simp [best]
  | m + 1 => by
    have := best_len B e m
    have := (com_le (B.drop (e - (m + 1))) (nxt B e)).2
    rw [show best B e (m + 1) = if (best B e m).1 < ali B e (m + 1) then (ali B e (m + 1), m + 1) else best B e m from rfl]
    unfold ali at *
    split
    · exact this
    · assumption
theorem best_back (B : List UInt8) (e : Nat) : ∀ m, (best B e m).2 ≤ m ∧ ((best B e m).1 = 0 ∨ (1 ≤ (best B e m).2 ∧ (best B e m).1 = ali B e (best B e m).2))
  | 0 => by simp [best]
  | m + 1 => by
    have := best_back B e m
    simp only [best]
    split
    · exact ⟨by simp, Or.inr ⟨by simp, rfl⟩⟩
    · exact ⟨by omega, this.2⟩
theorem worth_skip1 (B : List UInt8) (e m : Nat) (h : ali B e (m + 1) < 3) : worth (best B e (m + 1)) = worth (best B e m) := by
  simp only [best]
  split
  · unfold worth
    rw [if_pos h, if_pos (by omega)]
  · rfl
/-- ways back that begin otherwise change nothing -/
theorem worth_skip (B : List UInt8) (e m : Nat) : ∀ k, (∀ j, m < j → j ≤ m + k → ali B e j < 3) → worth (best B e (m + k)) = worth (best B e m)
  | 0, _ => rfl
  | k + 1, h => by
    rw [← Nat.add_assoc, worth_skip1 B e (m + k) (h _ (by omega) (by omega)), worth_skip B e m k (fun j h1 h2 => h j h1 (by omega))]
/-- nor do any behind one that has all -/
theorem worth_full (B : List UInt8) (e m : Nat) (h : (worth (best B e m)).1 = (nxt B e).length) (h0 : 0 < (nxt B e).length) : ∀ k, worth (best B e (m + k)) = worth (best B e m) := by
  have hb : best B e m = worth (best B e m) := by
    unfold worth at h ⊢
    split at h
    · simp only at h; omega
    · rename_i h2
      rw [if_neg h2]
  intro k
  congr 1
  induction k with
  | zero => rfl
  | succ k ih =>
    rw [← Nat.add_assoc]
    simp only [best, ih]
    have := (com_le (B.drop (e - (m + k + 1))) (nxt B e)).2
    rw [if_neg]
    unfold ali
    rw [hb]
    omega
/-- one more way back that begins alike -/
theorem worth_step (B : List UInt8) (e m : Nat) (h : 3 ≤ ali B e (m + 1)) : worth (best B e (m + 1)) = if (worth (best B e m)).1 < ali B e (m + 1) then (ali B e (m + 1), m + 1) else worth (best B e m) := by
  simp only [best]
  by_cases h3 : (best B e m).1 < 3
  · have e0 : worth (best B e m) = (0, 0) := if_pos h3
    rw [e0, if_pos (by omega), if_pos (by simp only; omega)]
    unfold worth
    rw [if_neg (by simp only; omega)]
  · have e0 : worth (best B e m) = best B e m := if_neg h3
    rw [e0]
    split
    · unfold worth
      rw [if_neg (by simp only; omega)]
    · exact e0
theorem longest_ok (B : List UInt8) (e : Nat) : longest B e = (0, 0) ∨ (3 ≤ (longest B e).1 ∧ (longest B e).1 ≤ 66 ∧ e + (longest B e).1 ≤ B.length ∧ 1 ≤ (longest B e).2 ∧ (longest B e).2 ≤ 512 ∧ (longest B e).2 ≤ e ∧ (longest B e).1 = ali B e (longest B e).2) := by
  unfold longest worth
  split
  · exact Or.inl rfl
  · rename_i h
    have h1 := best_len B e (min 512 e)
    have h2 := best_back B e (min 512 e)
    rw [nxt_len] at h1
    rcases h2.2 with h3 | ⟨h3, h4⟩
    · omega
    · exact Or.inr ⟨by omega, by omega, by omega, h3, by omega, by omega, h4⟩
/-- what a stretch begins with -/
def st (B : List UInt8) (q : Nat) : List UInt8 := (B.drop q).take 3
theorem st_len (B : List UInt8) (q : Nat) : (st B q).length = min 3 (B.length - q) := by simp [st]
theorem st_at (B : List UInt8) (q i : Nat) (hi : i < 3) : (st B q)[i]? = B[q + i]? := by
  unfold st
  rw [List.getElem?_take_of_lt hi, List.getElem?_drop]
theorem nxt_at (B : List UInt8) (e i : Nat) (hi : i < 66) : (nxt B e)[i]? = B[e + i]? := by
  unfold nxt
  rw [List.getElem?_take_of_lt hi, List.getElem?_drop]
theorem ali_alike (B : List UInt8) (e back : Nat) (hb : back ≤ e) (hn : 3 ≤ B.length - e) : st B (e - back) = st B e ↔ 3 ≤ ali B e back := by
  constructor
  · intro h
    by_cases h3 : 3 ≤ ali B e back
    · exact h3
    · exfalso
      have h4 : com (B.drop (e - back)) (nxt B e) < 3 := by unfold ali at h3; omega
      have h5 := com_stop (B.drop (e - back)) (nxt B e) (by rw [List.length_drop]; omega) (by rw [nxt_len]; omega)
      apply h5
      rw [List.getElem?_drop, nxt_at B e _ (by omega), ← st_at B (e - back) _ h4, ← st_at B e _ h4, h]
  · intro h
    refine List.ext_getElem? (fun i => ?_)
    by_cases hi : i < 3
    · have := com_at (B.drop (e - back)) (nxt B e) i (by unfold ali at h; omega)
      rw [List.getElem?_drop, nxt_at B e i (by omega)] at this
      rw [st_at B _ i hi, st_at B _ i hi, this]
    · rw [List.getElem?_eq_none (by rw [st_len]; omega), List.getElem?_eq_none (by rw [st_len]; omega)]
/-- bytes as they are, in tokens -/
def litsA : Nat → List UInt8 → List UInt8
  | 0, _ => []
  | f + 1, b => if b = [] then [] else UInt8.ofNat ((b.take 128).length - 1) :: (b.take 128 ++ litsA f (b.drop 128))
def lits (b : List UInt8) : List UInt8 := litsA b.length b
theorem litsA_any (b : List UInt8) : ∀ f g : Nat, b.length ≤ f → b.length ≤ g → litsA f b = litsA g b := by
  intro f
  induction f generalizing b with
  | zero =>
    intro g h1 _
    have : b = [] := List.length_eq_zero_iff.1 (by omega)
    subst this
    cases g <;> simp [litsA]
  | succ f ih =>
    intro g h1 h2
    cases g with
    | zero =>
      have : b = [] := List.length_eq_zero_iff.1 (by omega)
      subst this
      simp [litsA]
    | succ g =>
      simp only [litsA]
      split
      · rfl
      · rename_i hb
        have : 0 < b.length := List.length_pos_iff.2 hb
        rw [ih (b.drop 128) g (by rw [List.length_drop]; omega) (by rw [List.length_drop]; omega)]
theorem lits_nil : lits [] = [] := rfl
theorem lits_cons (b : List UInt8) (h : b ≠ []) : lits b = UInt8.ofNat ((b.take 128).length - 1) :: (b.take 128 ++ lits (b.drop 128)) := by
  have hp : 0 < b.length := List.length_pos_iff.2 h
  unfold lits
  rw [litsA_any b b.length (b.length + 1) (by omega) (by omega)]
  simp only [litsA]
  rw [if_neg h, litsA_any (b.drop 128) b.length (b.drop 128).length (by rw [List.length_drop]; omega) (by omega)]
/-- tokens from a place on -/
def shA (B : List UInt8) : Nat → Nat → Nat → List UInt8 → List UInt8
  | 0, _, told, out => out ++ lits (B.drop told)
  | f + 1, at_, told, out => if B.length ≤ at_ then out ++ lits (B.drop told) else if (longest B at_).1 = 0 then shA B f (at_ + 1) told out
    else shA B f (at_ + (longest B at_).1) (at_ + (longest B at_).1) (out ++ lits ((B.drop told).take (at_ - told)) ++ [UInt8.ofNat ((longest B at_).1 + 125)] ++ numB (longest B at_).2)
/-- P7.1 -/
def shB (B : List UInt8) : List UInt8 := shA B (B.length + 1) 0 0 []
theorem shA_end (B : List UInt8) (f at_ told : Nat) (out : List UInt8) (h : B.length ≤ at_) : shA B f at_ told out = out ++ lits (B.drop told) := by
  cases f with
  | zero => rfl
  | succ f => simp only [shA]; rw [if_pos h]
/-- so many bytes more, each of which stands so far back -/
def copies (out : List UInt8) (back : Nat) : Nat → List UInt8
  | 0 => out
  | n + 1 => copies out back n ++ [(copies out back n).getD ((copies out back n).length - back) 0]
theorem copies_len (out : List UInt8) (back : Nat) : ∀ n, (copies out back n).length = out.length + n
  | 0 => rfl
  | n + 1 => by simp only [copies, List.length_append, copies_len out back n, List.length_singleton]; omega
def inR (l : List UInt8) (lo hi : Int) : Nat × Nat × Nat := if (lk l).2.2 = 0 ∧ (((lk l).1 : Int) < lo ∨ hi < ((lk l).1 : Int)) then (0, 0, 5) else lk l
/-- a token's head: how many, how far back, how many bytes of it are read, error -/
def headR (x : UInt8) (t : List UInt8) (there : Nat) : Nat × Nat × Nat × Nat :=
  if x.toNat < 128 then (if t.length < x.toNat + 1 then (0, 0, 0, 2) else (x.toNat + 1, 0, 0, 0))
  else if (inR t 1 (min 512 there : Nat)).2.2 = 2 then (0, 0, (inR t 1 (min 512 there : Nat)).2.1, 2)
  else if (inR t 1 (min 512 there : Nat)).2.2 ≠ 0 ∨ 66 < x.toNat - 125 then (0, 0, (inR t 1 (min 512 there : Nat)).2.1, 70)
  else (x.toNat - 125, (inR t 1 (min 512 there : Nat)).1, (inR t 1 (min 512 there : Nat)).2.1, 0)
/-- P7.2 -/
def reA (most : Int) : Nat → List UInt8 → List UInt8 → List UInt8 × Nat
  | 0, _, out => (out, 0)
  | _ + 1, [], out => (out, 0)
  | f + 1, x :: t, out =>
    if (headR x t out.length).2.2.2 ≠ 0 then ([], (headR x t out.length).2.2.2)
    else if most < (out.length + (headR x t out.length).1 : Nat) then ([], 71)
    else if (headR x t out.length).2.1 = 0 then reA most f (t.drop (headR x t out.length).1) (out ++ t.take (headR x t out.length).1)
    else reA most f (t.drop (headR x t out.length).2.2.1) (copies out (headR x t out.length).2.1 (headR x t out.length).1)
def reB (b : List UInt8) (most : Int) : List UInt8 × Nat := reA most (b.length + 1) b []
end Go.Proofs.YtbcgnacfhpahkaaDoor.LM
