/- Layer 7: what was shortened is restored; how long it is. No program is named here. -/
import Derived.Test.YtmdaglcpnakjhaaDoorLzMath3
namespace Go.Proofs.YtmdaglcpnakjhaaDoor.LM
open OM
theorem u8_nat (n : Nat) (h : n < 256) : (UInt8.ofNat n).toNat = n := by
  have : (UInt8.ofNat n).toNat = n % 256 := by simp
  omega
theorem lits_tell (most : Int) (tail : List UInt8) : ∀ (k : Nat) (b o : List UInt8), b.length ≤ k → ((o.length + b.length : Nat) : Int) ≤ most → re most (lits b ++ tail) o = re most tail (o ++ b) := by
  intro k
  induction k with
  | zero =>
    intro b o h _
    obtain rfl : b = [] := List.length_eq_zero_iff.1 (by omega)
    rw [lits_nil, List.nil_append, List.append_nil]
  | succ k ih =>
    intro b o h hm
    by_cases hb : b = []
    · subst hb
      rw [lits_nil, List.nil_append, List.append_nil]
    · have hp : 0 < b.length := List.length_pos_iff.2 hb
      have hk : (b.take 128).length = min 128 b.length := List.length_take
      have hx : (UInt8.ofNat ((b.take 128).length - 1)).toNat = (b.take 128).length - 1 := u8_nat _ (by omega)
      have hx1 : (UInt8.ofNat ((b.take 128).length - 1)).toNat + 1 = (b.take 128).length := by omega
      rw [lits_cons b hb, List.cons_append, List.append_assoc, re_lit (by omega) (by rw [hx1, List.length_append]; omega) (by rw [hx1]; omega), hx1, List.drop_left, List.take_left, ih (b.drop 128) (o ++ b.take 128) (by rw [List.length_drop]; omega) (by rw [List.length_append, List.length_drop]; omega), List.append_assoc, List.take_append_drop]
theorem copies_take (B p : List UInt8) (at_ back : Nat) (h1 : 1 ≤ back) (h2 : back ≤ at_) : ∀ m, m ≤ ali B at_ back → at_ + m ≤ B.length → copies (p ++ B.take at_) back m = p ++ B.take (at_ + m)
  | 0, _, _ => rfl
  | m + 1, h, hl => by
    have ih := copies_take B p at_ back h1 h2 m (by omega) (by omega)
    have hlen : (p ++ B.take (at_ + m)).length = p.length + (at_ + m) := by rw [List.length_append, List.length_take]; omega
    have hm66 : m < 66 := by
      have := (com_le (B.drop (at_ - back)) (nxt B at_)).2
      rw [nxt_len] at this
      unfold ali at h
      omega
    have hc := com_at (B.drop (at_ - back)) (nxt B at_) m (by unfold ali at h; omega)
    rw [List.getElem?_drop, nxt_at B at_ m hm66] at hc
    have hg : (p ++ B.take (at_ + m)).getD (p.length + (at_ + m) - back) 0 = B[at_ + m]'(by omega) := by
      rw [List.getD, List.getElem?_append_right (by omega), List.getElem?_take_of_lt (by omega), show p.length + (at_ + m) - back - p.length = at_ - back + m by omega, hc, List.getElem?_eq_getElem (by omega)]
      rfl
    show copies (p ++ B.take at_) back m ++ [(copies (p ++ B.take at_) back m).getD ((copies (p ++ B.take at_) back m).length - back) 0] = _
    rw [ih, hlen, hg, ← Nat.add_assoc, List.take_succ_eq_append_getElem (by omega), List.append_assoc]
theorem match_tell (most : Int) (B p tail : List UInt8) (at_ n back : Nat) (h3 : 3 ≤ n) (h66 : n ≤ 66) (hl : at_ + n ≤ B.length) (h1 : 1 ≤ back) (h5 : back ≤ 512) (h2 : back ≤ at_) (ha : n = ali B at_ back) (hm : ((p.length + B.length : Nat) : Int) ≤ most) :
    re most (UInt8.ofNat (n + 125) :: (numB back ++ tail)) (p ++ B.take at_) = re most tail (p ++ B.take (at_ + n)) := by
  have hx : (UInt8.ofNat (n + 125)).toNat = n + 125 := u8_nat _ (by omega)
  have hlen : (p ++ B.take at_).length = p.length + at_ := by rw [List.length_append, List.length_take]; omega
  have hlk := look_num back tail (by omega)
  have hin : inR (numB back ++ tail) 1 ((min 512 (p.length + at_) : Nat) : Int) = (back, fol back + 1, 0) := by
    unfold inR
    rw [hlk, if_neg]
    simp only
    omega
  have h0 : headR (UInt8.ofNat (n + 125)) (numB back ++ tail) (p ++ B.take at_).length = ((UInt8.ofNat (n + 125)).toNat - 125, back, fol back + 1, 0) := by
    unfold headR
    rw [hlen, if_neg (by omega), hin, if_neg (by simp), if_neg (by simp; omega)]
  rw [re_match h0 h1 (by rw [hlen, hx]; omega), hx, show n + 125 - 125 = n by omega, copies_take B p at_ back h1 h2 n (by omega) hl, ← numB_len, List.drop_left]
theorem shA_tell (most : Int) (B p : List UInt8) (hm : ((p.length + B.length : Nat) : Int) ≤ most) : ∀ (fuel at_ told : Nat) (out : List UInt8), B.length + 1 ≤ fuel + at_ → told ≤ at_ → at_ ≤ B.length → (∀ tail, re most (out ++ tail) p = re most tail (p ++ B.take told)) → ∀ tail, re most (shA B fuel at_ told out ++ tail) p = re most tail (p ++ B) := by
  intro fuel
  induction fuel with
  | zero => intro at_ told out h1 h2 h3; omega
  | succ fuel ih =>
    intro at_ told out h1 h2 h3 h4 tail
    have hs : shA B (fuel + 1) at_ told out = if B.length ≤ at_ then out ++ lits (B.drop told) else if (longest B at_).1 = 0 then shA B fuel (at_ + 1) told out
        else shA B fuel (at_ + (longest B at_).1) (at_ + (longest B at_).1) (out ++ lits ((B.drop told).take (at_ - told)) ++ [UInt8.ofNat ((longest B at_).1 + 125)] ++ numB (longest B at_).2) := rfl
    rw [hs]
    have htl : (B.take told).length = told := by rw [List.length_take]; omega
    split
    · rw [List.append_assoc, h4, lits_tell most tail (B.drop told).length (B.drop told) _ (Nat.le_refl _) (by rw [List.length_append, htl, List.length_drop]; omega), List.append_assoc, List.take_append_drop]
    · rename_i hlt
      split
      · exact ih (at_ + 1) told out (by omega) (by omega) (by omega) h4 tail
      · rename_i hn
        rcases longest_ok B at_ with h5 | ⟨o1, o2, o3, o4, o5, o6, o7⟩
        · rw [h5] at hn; exact absurd rfl hn
        · refine ih _ _ _ (by omega) (Nat.le_refl _) o3 (fun tl => ?_) tail
          have e2 : B.take told ++ (B.drop told).take (at_ - told) = B.take at_ := by
            have h6 := List.take_add (l := B) (i := told) (j := at_ - told)
            rw [show told + (at_ - told) = at_ by omega] at h6
            exact h6.symm
          rw [List.append_assoc, List.append_assoc, List.append_assoc, h4, lits_tell most _ _ ((B.drop told).take (at_ - told)) _ (Nat.le_refl _) (by rw [List.length_append, htl, List.length_take, List.length_drop]; omega), List.append_assoc, e2, List.singleton_append]
          exact match_tell most B p tl at_ _ _ o1 o2 o3 o4 o5 o6 o7 hm
theorem shB_tell (most : Int) (B p tail : List UInt8) (hm : ((p.length + B.length : Nat) : Int) ≤ most) : re most (shB B ++ tail) p = re most tail (p ++ B) :=
  shA_tell most B p hm (B.length + 1) 0 0 [] (by omega) (Nat.le_refl _) (Nat.zero_le _) (fun tl => by simp) tail
/-- P7.3 -/
theorem back_ok (B : List UInt8) : reB (shB B) (B.length : Nat) = (B, 0) := by
  rw [reB_re]
  have := shB_tell ((B.length : Nat) : Int) B [] [] (by simp)
  rwa [List.append_nil, List.nil_append, re_nil] at this
theorem twice_ok (a b : List UInt8) : reB (shB a ++ shB b) ((a.length : Nat) + (b.length : Nat)) = (a ++ b, 0) := by
  rw [reB_re]
  have h1 := shB_tell ((a.length : Nat) + (b.length : Nat) : Int) a [] (shB b) (by simp; omega)
  have h2 := shB_tell ((a.length : Nat) + (b.length : Nat) : Int) b a [] (by omega)
  rw [List.append_nil, re_nil] at h2
  rw [h1, List.nil_append, h2]
theorem lits_len : ∀ (k : Nat) (b : List UInt8), b.length ≤ k → (lits b).length = b.length + (b.length + 127) / 128
  | 0, b, h => by
    obtain rfl : b = [] := List.length_eq_zero_iff.1 (by omega)
    rfl
  | k + 1, b, h => by
    by_cases hb : b = []
    · subst hb; rfl
    · have hp : 0 < b.length := List.length_pos_iff.2 hb
      rw [lits_cons b hb, List.length_cons, List.length_append, List.length_take, lits_len k (b.drop 128) (by rw [List.length_drop]; omega), List.length_drop]
      omega
theorem numB_two {u : Nat} (h : u ≤ 512) : (numB u).length ≤ 2 := by
  rw [numB_len]
  rcases Nat.lt_or_ge (fol u) 2 with h1 | h1
  · omega
  · have := fol_ge u 1 (by omega)
    have h2 : pw 1 = 16384 := by decide
    omega
theorem shA_len (B : List UInt8) : ∀ (fuel at_ told : Nat) (out : List UInt8), told ≤ at_ → at_ ≤ B.length → B.length + 1 ≤ fuel + at_ → 3 * out.length ≤ 4 * told → 3 * (shA B fuel at_ told out).length ≤ 4 * B.length + 3 := by
  intro fuel
  induction fuel with
  | zero => intro at_ told out h1 h2 h3; omega
  | succ fuel ih =>
    intro at_ told out h1 h2 h3 h4
    have hs : shA B (fuel + 1) at_ told out = if B.length ≤ at_ then out ++ lits (B.drop told) else if (longest B at_).1 = 0 then shA B fuel (at_ + 1) told out
        else shA B fuel (at_ + (longest B at_).1) (at_ + (longest B at_).1) (out ++ lits ((B.drop told).take (at_ - told)) ++ [UInt8.ofNat ((longest B at_).1 + 125)] ++ numB (longest B at_).2) := rfl
    rw [hs]
    split
    · rw [List.length_append, lits_len _ _ (Nat.le_refl _), List.length_drop]
      omega
    · split
      · exact ih (at_ + 1) told out (by omega) (by omega) (by omega) h4
      · rename_i hn
        rcases longest_ok B at_ with h5 | ⟨o1, o2, o3, o4, o5, o6, o7⟩
        · rw [h5] at hn; exact absurd rfl hn
        · have h6 := numB_two o5
          refine ih _ _ _ (Nat.le_refl _) o3 (by omega) ?_
          rw [List.length_append, List.length_append, List.length_append, List.length_singleton, lits_len _ _ (Nat.le_refl _), List.length_take, List.length_drop]
          omega
theorem shB_len (B : List UInt8) : (shB B).length ≤ B.length + B.length / 3 + 1 := by
  have := shA_len B (B.length + 1) 0 0 [] (Nat.le_refl _) (Nat.zero_le _) (by omega) (by simp)
  unfold shB
  omega
end Go.Proofs.YtmdaglcpnakjhaaDoor.LM
