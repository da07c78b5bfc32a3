/- Streams that are cut where something says so: plain mathematics. -/
namespace Go.Proofs.Ytjmgokjflfhohaa.ch
set_option linter.unusedVariables false
/-- the chunks of bytes behind what is pending, and what is pending then -/
def cutF (e : List UInt8 → Bool) : List UInt8 → List UInt8 → List (List UInt8) × List UInt8
  | pend, [] => ([], pend)
  | pend, c :: l => if e (pend ++ [c]) = true then ((pend ++ [c]) :: (cutF e [] l).1, (cutF e [] l).2) else cutF e (pend ++ [c]) l
theorem cut_nil (e : List UInt8 → Bool) (pend : List UInt8) : cutF e pend [] = ([], pend) := by rw [cutF]
theorem cut_hit {e : List UInt8 → Bool} {pend : List UInt8} {c : UInt8} (l : List UInt8) (h : e (pend ++ [c]) = true) : cutF e pend (c :: l) = ((pend ++ [c]) :: (cutF e [] l).1, (cutF e [] l).2) := by rw [cutF, if_pos h]
theorem cut_miss {e : List UInt8 → Bool} {pend : List UInt8} {c : UInt8} (l : List UInt8) (h : e (pend ++ [c]) = false) : cutF e pend (c :: l) = cutF e (pend ++ [c]) l := by rw [cutF, if_neg (by rw [h]; decide)]
theorem cut_app (e : List UInt8 → Bool) : ∀ (l1 l2 pend : List UInt8), cutF e pend (l1 ++ l2) = ((cutF e pend l1).1 ++ (cutF e (cutF e pend l1).2 l2).1, (cutF e (cutF e pend l1).2 l2).2)
  | [], l2, pend => by rw [cut_nil]; rfl
  | c :: l1, l2, pend => by
    cases h : e (pend ++ [c]) with
    | true => rw [List.cons_append, cut_hit _ h, cut_hit _ h, cut_app e l1 l2 []]; rfl
    | false => rw [List.cons_append, cut_miss _ h, cut_miss _ h, cut_app e l1 l2 (pend ++ [c])]
theorem cut_snoc (e : List UInt8 → Bool) (l pend : List UInt8) (c : UInt8) : cutF e pend (l ++ [c]) = if e ((cutF e pend l).2 ++ [c]) = true then ((cutF e pend l).1 ++ [(cutF e pend l).2 ++ [c]], []) else ((cutF e pend l).1, (cutF e pend l).2 ++ [c]) := by
  rw [cut_app]
  cases h : e ((cutF e pend l).2 ++ [c]) with
  | true => rw [cut_hit _ h, cut_nil, if_pos rfl]
  | false => rw [cut_miss _ h, cut_nil, if_neg (by decide), List.append_nil]
theorem cut_whole (e : List UInt8 → Bool) : ∀ (l pend : List UInt8), (cutF e pend l).1.flatten ++ (cutF e pend l).2 = pend ++ l
  | [], pend => by rw [cut_nil]; simp
  | c :: l, pend => by
    cases h : e (pend ++ [c]) with
    | true =>
      rw [cut_hit _ h, List.flatten_cons, List.append_assoc, cut_whole e l []]
      simp
    | false => rw [cut_miss _ h, cut_whole e l]; simp
/-- when chunks end: not ahead of 32 bytes, at 256 at the latest -/
structure Rule (e : List UInt8 → Bool) : Prop where
  least : ∀ q, e q = true → 32 ≤ q.length
  most : ∀ q, 256 ≤ q.length → e q = true
theorem cut_sizes {e : List UInt8 → Bool} (he : Rule e) : ∀ (l pend : List UInt8), pend.length < 256 → (∀ x ∈ (cutF e pend l).1, 32 ≤ x.length ∧ x.length ≤ 256) ∧ (cutF e pend l).2.length < 256
  | [], pend, hp => by rw [cut_nil]; exact ⟨fun x h => absurd h (by simp), hp⟩
  | c :: l, pend, hp => by
    cases h : e (pend ++ [c]) with
    | true =>
      have ih := cut_sizes he l [] (by simp)
      rw [cut_hit _ h]
      refine ⟨fun x hx => ?_, ih.2⟩
      rcases List.mem_cons.1 hx with rfl | hx
      · exact ⟨he.least _ h, by rw [List.length_append, List.length_singleton]; omega⟩
      · exact ih.1 x hx
    | false =>
      rw [cut_miss _ h]
      apply cut_sizes he l
      apply Nat.lt_of_not_le
      intro h2
      rw [he.most _ h2] at h
      cases h
theorem flatten_least : ∀ (cs : List (List UInt8)), (∀ x ∈ cs, 32 ≤ x.length ∧ x.length ≤ 256) → 32 * cs.length ≤ cs.flatten.length ∧ cs.flatten.length ≤ 256 * cs.length
  | [], _ => by simp
  | x :: cs, h => by
    have ih := flatten_least cs (fun y hy => h y (List.mem_cons_of_mem _ hy))
    have hx := h x (List.mem_cons_self ..)
    rw [List.flatten_cons, List.length_append, List.length_cons]
    omega
/-- all chunks -/
def allF (e : List UInt8 → Bool) (l : List UInt8) : List (List UInt8) := if (cutF e [] l).2 = [] then (cutF e [] l).1 else (cutF e [] l).1 ++ [(cutF e [] l).2]
theorem all_whole (e : List UInt8 → Bool) (l : List UInt8) : (allF e l).flatten = l := by
  have h := cut_whole e l []
  unfold allF
  by_cases c : (cutF e [] l).2 = []
  · rw [if_pos c]; rw [c] at h; simpa using h
  · rw [if_neg c]; simpa using h
theorem all_few {e : List UInt8 → Bool} (he : Rule e) (l : List UInt8) : (allF e l).length ≤ l.length / 32 + 1 ∧ (l.length + 255) / 256 ≤ (allF e l).length := by
  have h := cut_sizes he l [] (by simp)
  have f := flatten_least _ h.1
  have w := congrArg List.length (cut_whole e l [])
  rw [List.length_append, List.nil_append] at w
  unfold allF
  by_cases c : (cutF e [] l).2 = []
  · rw [if_pos c]; rw [c, List.length_nil] at w; omega
  · rw [if_neg c, List.length_append, List.length_singleton]
    have : 0 < (cutF e [] l).2.length := List.length_pos_iff.2 c
    omega
/-- the first chunk -/
theorem cut_first {e : List UInt8 → Bool} : ∀ (l pend : List UInt8) (x : List UInt8) (cs : List (List UInt8)), (cutF e pend l).1 = x :: cs → ∃ l1 l2, l = l1 ++ l2 ∧ x = pend ++ l1 ∧ cutF e [] l2 = (cs, (cutF e pend l).2)
  | [], pend, x, cs, h => by rw [cut_nil] at h; cases h
  | c :: l, pend, x, cs, h => by
    cases k : e (pend ++ [c]) with
    | true =>
      rw [cut_hit _ k] at h ⊢
      injection h with h1 h2
      exact ⟨[c], l, rfl, h1.symm, by rw [← h2]⟩
    | false =>
      rw [cut_miss _ k] at h ⊢
      obtain ⟨l1, l2, e1, e2, e3⟩ := cut_first l _ x cs h
      exact ⟨c :: l1, l2, by rw [e1]; rfl, by rw [e2]; simp, e3⟩
theorem all_drop {e : List UInt8 → Bool} : ∀ (k : Nat) (l : List UInt8), k ≤ (allF e l).length → allF e (l.drop ((allF e l).take k).flatten.length) = (allF e l).drop k
  | 0, l, h => by simp
  | k + 1, l, h => by
    cases hc : (cutF e [] l).1 with
    | nil =>
      by_cases c : (cutF e [] l).2 = []
      · exfalso
        unfold allF at h
        rw [if_pos c, hc] at h
        simp at h
      · have hw := cut_whole e l []
        rw [hc] at hw
        have hl : (cutF e [] l).2 = l := by simpa using hw
        have ha : allF e l = [l] := by unfold allF; rw [if_neg c, hc, hl]; rfl
        rw [ha]
        have h2 : k = 0 := by rw [ha] at h; simp at h; exact h
        subst h2
        simp [allF, cut_nil]
    | cons x cs =>
      obtain ⟨l1, l2, e1, e2, e3⟩ := cut_first l [] x cs hc
      rw [List.nil_append] at e2
      subst e2
      have ha : allF e l = x :: allF e l2 := by
        unfold allF
        rw [e3, hc]
        by_cases c : (cutF e [] l).2 = []
        · rw [if_pos c, if_pos c]
        · rw [if_neg c, if_neg c]; rfl
      rw [ha, List.take_succ_cons, List.drop_succ_cons, List.flatten_cons, List.length_append, e1, List.drop_append, List.drop_eq_nil_of_le (by omega), List.nil_append]
      rw [show x.length + ((allF e l2).take k).flatten.length - x.length = ((allF e l2).take k).flatten.length by omega]
      exact all_drop k l2 (by rw [ha] at h; simpa using h)
/-- the same bytes are cut alike from an end on -/
theorem cut_again (e : List UInt8 → Bool) (l r : List UInt8) : (cutF e [] l).1 = ((cutF e [] (l ++ r)).1).take (cutF e [] l).1.length ∧ (cutF e [] l).1.length ≤ (cutF e [] (l ++ r)).1.length := by
  rw [cut_app]
  simp
/-- no end within -/
theorem cut_none {e : List UInt8 → Bool} : ∀ (l pend : List UInt8), (∀ m, 0 < m → m ≤ l.length → e (pend ++ l.take m) = false) → cutF e pend l = ([], pend ++ l)
  | [], pend, h => by rw [cut_nil, List.append_nil]
  | c :: l, pend, h => by
    have h1 := h 1 (by omega) (by simp)
    rw [List.take_succ_cons, List.take_zero] at h1
    rw [cut_miss _ h1, cut_none l (pend ++ [c]) (fun m hm hl => by
      have := h (m + 1) (by omega) (by simp; omega)
      rw [List.take_succ_cons] at this
      simpa using this)]
    simp
/-- the first end -/
theorem cut_at {e : List UInt8 → Bool} : ∀ (n : Nat) (l pend : List UInt8), 0 < n → n ≤ l.length → (∀ m, 0 < m → m < n → e (pend ++ l.take m) = false) → e (pend ++ l.take n) = true → cutF e pend l = ((pend ++ l.take n) :: (cutF e [] (l.drop n)).1, (cutF e [] (l.drop n)).2)
  | 0, l, pend, h, _, _, _ => by omega
  | n + 1, [], pend, _, h, _, _ => by simp at h
  | n + 1, c :: l, pend, _, hn, hm, ht => by
    by_cases z : n = 0
    · subst z
      rw [List.take_succ_cons, List.take_zero] at ht ⊢
      rw [cut_hit _ ht]; rfl
    · have h1 := hm 1 (by omega) (by omega)
      rw [List.take_succ_cons, List.take_zero] at h1
      rw [cut_miss _ h1]
      have hn2 : n ≤ l.length := by simp at hn; omega
      rw [cut_at n l (pend ++ [c]) (by omega) hn2 (fun m h0 h2 => by
        have := hm (m + 1) (by omega) (by omega)
        rw [List.take_succ_cons] at this
        simpa using this) (by
        rw [List.take_succ_cons] at ht
        simpa using ht)]
      rw [List.take_succ_cons, List.drop_succ_cons]
      simp
end Go.Proofs.Ytjmgokjflfhohaa.ch
