/- Layer 7: of bytes that are one stretch again and again the tokens are few. No program is named here. -/
import Derived.Test.YtnikecjkaciplaaLzMath4
namespace Go.Proofs.Ytnikecjkaciplaa.LM
open OM
theorem best_ge (B : List UInt8) (e : Nat) : ∀ m j, 1 ≤ j → j ≤ m → ali B e j ≤ (best B e m).1
  | 0, j, h1, h2 => by omega
  | m + 1, j, h1, h2 => by
    simp only [best]
    by_cases hj : j = m + 1
    · subst hj
      split
      · exact Nat.le_refl _
      · omega
    · have := best_ge B e m j h1 (by omega)
      split
      · exact Nat.le_trans this (by simp only; omega)
      · exact this
theorem ali_per (B : List UInt8) (p at_ : Nat) (hp : ∀ i, i + p < B.length → B[i]? = B[i + p]?) (h1 : p ≤ at_) (h2 : at_ ≤ B.length) : ali B at_ p = (nxt B at_).length := by
  refine com_eq _ _ _ (by rw [List.length_drop, nxt_len]; omega) (Nat.le_refl _) (fun i hi => ?_) (Or.inl rfl)
  rw [nxt_len] at hi
  rw [nxt_at B at_ i (by omega), List.getElem?_drop]
  have := hp (at_ - p + i) (by omega)
  rw [this]
  congr 1
  omega
theorem longest_per (B : List UInt8) (p at_ : Nat) (hp : ∀ i, i + p < B.length → B[i]? = B[i + p]?) (h0 : 1 ≤ p) (h60 : p ≤ 60) (h1 : p ≤ at_) (h2 : at_ + 3 ≤ B.length) : (longest B at_).1 = min 66 (B.length - at_) := by
  have ha := ali_per B p at_ hp h1 (by omega)
  have hg := best_ge B at_ (min 512 at_) p h0 (by omega)
  have hl := best_len B at_ (min 512 at_)
  rw [nxt_len] at ha hl
  unfold longest worth
  rw [if_neg (by omega)]
  omega
theorem numB_one {u : Nat} (h : u ≤ 60) : (numB u).length = 1 := by
  rw [numB_len]
  rcases Nat.lt_or_ge (fol u) 1 with h1 | h1
  · omega
  · have := fol_ge u 0 (by omega)
    have h2 : pw 0 = 128 := by decide
    omega
theorem shA_gain (B : List UInt8) (p : Nat) (hp : ∀ i, i + p < B.length → B[i]? = B[i + p]?) (h3 : 3 ≤ p) (h60 : p ≤ 60) (hn : B.length ≤ p ∨ p + 3 ≤ B.length) : ∀ (fuel at_ told : Nat) (out : List UInt8), told ≤ at_ → at_ ≤ B.length → B.length + 1 ≤ fuel + at_ →
    (at_ ≤ p ∧ out.length ≤ told ∨ p < at_ ∧ (at_ + 3 ≤ B.length → told = at_) ∧ (B.length < at_ + 3 → B.length < told + 3) ∧ out.length + 3 * ((B.length - told + 65) / 66) ≤ p + 2 + 3 * ((B.length + 65) / 66)) →
    (shA B fuel at_ told out).length ≤ p + 2 + 3 * ((B.length + 65) / 66) := by
  intro fuel
  induction fuel with
  | zero => intro at_ told out h1 h2 h3; omega
  | succ fuel ih =>
    intro at_ told out h1 h2 h4 h5
    have hs : shA B (fuel + 1) at_ told out = if B.length ≤ at_ then out ++ lits (B.drop told) else if (longest B at_).1 = 0 then shA B fuel (at_ + 1) told out
        else shA B fuel (at_ + (longest B at_).1) (at_ + (longest B at_).1) (out ++ lits ((B.drop told).take (at_ - told)) ++ [UInt8.ofNat ((longest B at_).1 + 125)] ++ numB (longest B at_).2) := rfl
    rw [hs]
    split
    · rw [List.length_append, lits_len _ _ (Nat.le_refl _), List.length_drop]
      rcases h5 with ⟨q1, q2⟩ | ⟨q1, q2, q3, q4⟩ <;> omega
    · rename_i hlt
      have hok := longest_ok B at_
      split
      · rename_i h0
        refine ih (at_ + 1) told out (by omega) (by omega) (by omega) ?_
        rcases h5 with ⟨q1, q2⟩ | ⟨q1, q2, q3, q4⟩
        · by_cases hap : at_ = p
          · have := longest_per B p at_ hp (by omega) h60 (by omega) (by omega)
            omega
          · exact Or.inl ⟨by omega, q2⟩
        · by_cases h33 : at_ + 3 ≤ B.length
          · have := longest_per B p at_ hp (by omega) h60 (by omega) h33
            omega
          · exact Or.inr ⟨by omega, fun h => by omega, fun h => q3 (by omega), q4⟩
      · rename_i hn0
        rcases hok with h6 | ⟨o1, o2, o3, o4, o5, o6, o7⟩
        · rw [h6] at hn0; exact absurd rfl hn0
        · have h7 := numB_two o5
          have hlen : (out ++ lits ((B.drop told).take (at_ - told)) ++ [UInt8.ofNat ((longest B at_).1 + 125)] ++ numB (longest B at_).2).length = out.length + ((at_ - told) + (at_ - told + 127) / 128) + 1 + (numB (longest B at_).2).length := by
            rw [List.length_append, List.length_append, List.length_append, List.length_singleton, lits_len _ _ (Nat.le_refl _), List.length_take, List.length_drop, Nat.min_eq_left (by omega)]
          refine ih _ _ _ (Nat.le_refl _) o3 (by omega) ?_
          rw [hlen]
          rcases h5 with ⟨q1, q2⟩ | ⟨q1, q2, q3, q4⟩
          · by_cases hap : at_ = p
            · have hl := longest_per B p at_ hp (by omega) h60 (by omega) (by omega)
              exact Or.inr ⟨by omega, fun _ => rfl, fun h => h, by omega⟩
            · have h8 := numB_one (u := (longest B at_).2) (by omega)
              by_cases hpp : at_ + (longest B at_).1 ≤ p
              · exact Or.inl ⟨hpp, by omega⟩
              · exact Or.inr ⟨by omega, fun _ => rfl, fun h => h, by omega⟩
          · have hl := longest_per B p at_ hp (by omega) h60 (by omega) (by omega)
            have ht := q2 (by omega)
            exact Or.inr ⟨by omega, fun _ => rfl, fun h => h, by omega⟩
/-- so many times the same -/
def rep (l : List UInt8) : Nat → List UInt8
  | 0 => []
  | k + 1 => l ++ rep l k
theorem rep_len (l : List UInt8) : ∀ k, (rep l k).length = k * l.length
  | 0 => by simp [rep]
  | k + 1 => by rw [rep, List.length_append, rep_len l k, Nat.succ_mul]; omega
theorem rep_at (l : List UInt8) : ∀ k i, i < k * l.length → (rep l k)[i]? = l[i % l.length]?
  | 0, i, h => by simp at h
  | k + 1, i, h => by
    rw [rep]
    rw [Nat.succ_mul] at h
    by_cases hi : i < l.length
    · rw [List.getElem?_append_left hi, Nat.mod_eq_of_lt hi]
    · rw [List.getElem?_append_right (by omega), rep_at l k (i - l.length) (by omega), Nat.mod_eq_sub_mod (a := i) (by omega)]
theorem rep_per (l : List UInt8) (k i : Nat) (h : i + l.length < (rep l k).length) : (rep l k)[i]? = (rep l k)[i + l.length]? := by
  rw [rep_len] at h
  rw [rep_at l k i (by omega), rep_at l k _ h, Nat.add_mod_right]
theorem gain (l : List UInt8) (k : Nat) (h3 : 3 ≤ l.length) (h60 : l.length ≤ 60) : (shB (rep l k)).length ≤ l.length + 1 + 3 * ((rep l k).length / 66 + 2) := by
  have hl := rep_len l k
  have h := shA_gain (rep l k) l.length (fun i hi => rep_per l k i hi) h3 h60 (by
    rw [hl]
    match k with
    | 0 => left; simp
    | 1 => left; simp
    | k + 2 => right; have : (k + 2) * l.length = k * l.length + l.length + l.length := by rw [Nat.add_mul]; omega
               omega) ((rep l k).length + 1) 0 0 [] (Nat.le_refl _) (Nat.zero_le _) (by omega) (Or.inl ⟨Nat.zero_le _, by simp⟩)
  unfold shB
  omega
end Go.Proofs.Ytnikecjkaciplaa.LM
