/- Reading a number: what stands at the beginning of bytes, how many bytes it has, or why there is none. No program is named here. -/
import Derived.Test.YtbcgnacfhpahkaaDoorOctMath
namespace Go.Proofs.YtbcgnacfhpahkaaDoor.OM
def vl : List UInt8 → Nat
  | [] => 0
  | b :: t => b.toNat * 256 ^ t.length + vl t
theorem vl_lt : ∀ l : List UInt8, vl l < 256 ^ l.length
  | [] => by simp [vl]
  | b :: t => by
    have ih := vl_lt t
    have hb := b.toNat_lt
    simp only [vl, List.length_cons, Nat.pow_succ]
    have : b.toNat * 256 ^ t.length + 256 ^ t.length ≤ 256 * 256 ^ t.length := by
      rw [← Nat.succ_mul]
      exact Nat.mul_le_mul_right _ (by omega)
    rw [Nat.mul_comm (256 ^ t.length) 256]
    omega
theorem vl_inj : ∀ l r : List UInt8, l.length = r.length → vl l = vl r → l = r
  | [], [], _, _ => rfl
  | [], _ :: _, h, _ => by simp at h
  | _ :: _, [], h, _ => by simp at h
  | a :: l, b :: r, h, e => by
    have hl : l.length = r.length := by simpa using h
    have h1 := vl_lt l
    have h2 := vl_lt r
    simp only [vl, hl] at e
    rw [hl] at h1
    have hab : a.toNat = b.toNat := by
      rcases Nat.lt_trichotomy a.toNat b.toNat with hlt | he | hlt
      · have hm : (a.toNat + 1) * 256 ^ r.length ≤ b.toNat * 256 ^ r.length := Nat.mul_le_mul_right _ hlt
        rw [Nat.succ_mul] at hm
        omega
      · exact he
      · have hm : (b.toNat + 1) * 256 ^ r.length ≤ a.toNat * 256 ^ r.length := Nat.mul_le_mul_right _ hlt
        rw [Nat.succ_mul] at hm
        omega
    rw [hab] at e
    rw [UInt8.toNat_inj.1 hab, vl_inj l r hl (by omega)]
theorem vl_snoc (l : List UInt8) (x : UInt8) : vl (l ++ [x]) = 256 * vl l + x.toNat := by
  induction l with
  | nil => simp [vl]
  | cons a l ih =>
    rw [List.cons_append, vl, ih, vl, List.length_append]
    simp only [List.length_cons, List.length_nil, Nat.zero_add, Nat.pow_succ]
    rw [Nat.mul_add, ← Nat.add_assoc]
    congr 2
    rw [Nat.mul_left_comm, Nat.mul_comm 256]
    ac_rfl
theorem vl_take (l : List UInt8) (k : Nat) (h : k < l.length) : vl (l.take (k + 1)) = 256 * vl (l.take k) + (l[k]).toNat := by
  rw [← List.take_append_getElem h, vl_snoc]
theorem vl_tl (u : Nat) : ∀ k, vl (tl u k k) = u % 256 ^ k
  | 0 => by simp [tl, vl, Nat.mod_one]
  | k + 1 => by
    have e : u % 256 ^ (k + 1) = u % 256 ^ k + 256 ^ k * (u / 256 ^ k % 256) := by rw [Nat.pow_succ, Nat.mod_mul]
    rw [tl_cons, vl, vl_tl u k, tl_len, UInt8.toNat_ofNat', e, Nat.mul_comm (256 ^ k), Nat.add_comm]
theorem vl_num (u : Nat) (h : u ≤ 9223372036854775807) : vl (numB u) = lead (fol u) * 256 ^ fol u + u := by
  have hh := (hd_lt u (by omega)).1
  unfold numB
  rw [vl, tl_len, vl_tl, UInt8.toNat_ofNat_of_lt' (show hd u < UInt8.size from hh)]
  unfold hd
  rw [Nat.add_mul, Nat.add_assoc, Nat.mul_comm (u / 256 ^ fol u), Nat.div_add_mod]
/-- with how many ones a byte begins -/
def ones (x : Nat) : Nat := if x < 128 then 0 else if x < 192 then 1 else if x < 224 then 2 else if x < 240 then 3 else if x < 248 then 4 else if x < 252 then 5 else if x < 254 then 6 else if x < 255 then 7 else 8
theorem ones_le (x : Nat) : ones x ≤ 8 := by
  unfold ones
  repeat' split
  all_goals omega
theorem ones_of (k y : Nat) (hk : k ≤ 8) (h7 : k < 8 → y < 2 ^ (7 - k)) (h8 : y < 2 ^ (8 - k)) : ones (lead k + y) = k := by
  match k, hk with
  | 0, _ =>
    have h := h7 (by omega)
    rw [show lead 0 = 0 by decide]
    unfold ones
    repeat' split
    all_goals omega
  | 1, _ =>
    have h := h7 (by omega)
    rw [show lead 1 = 128 by decide]
    unfold ones
    repeat' split
    all_goals omega
  | 2, _ =>
    have h := h7 (by omega)
    rw [show lead 2 = 192 by decide]
    unfold ones
    repeat' split
    all_goals omega
  | 3, _ =>
    have h := h7 (by omega)
    rw [show lead 3 = 224 by decide]
    unfold ones
    repeat' split
    all_goals omega
  | 4, _ =>
    have h := h7 (by omega)
    rw [show lead 4 = 240 by decide]
    unfold ones
    repeat' split
    all_goals omega
  | 5, _ =>
    have h := h7 (by omega)
    rw [show lead 5 = 248 by decide]
    unfold ones
    repeat' split
    all_goals omega
  | 6, _ =>
    have h := h7 (by omega)
    rw [show lead 6 = 252 by decide]
    unfold ones
    repeat' split
    all_goals omega
  | 7, _ =>
    have h := h7 (by omega)
    rw [show lead 7 = 254 by decide]
    unfold ones
    repeat' split
    all_goals omega
  | 8, _ =>
    rw [show lead 8 = 255 by decide]
    unfold ones
    repeat' split
    all_goals omega
theorem lead_ones (x : Nat) (h : x < 256) : lead (ones x) ≤ x ∧ x < lead (ones x) + 2 ^ (8 - ones x) ∧ (ones x < 8 → x < lead (ones x) + 2 ^ (7 - ones x)) := by
  unfold ones
  repeat' split
  all_goals (simp [lead]; omega)
/-- what stands in the bytes of a number, but for the ones of its first byte -/
def raw (l : List UInt8) (k : Nat) : Nat := vl (l.take (k + 1)) - lead k * 256 ^ k
/-- the number with which bytes begin, how many bytes it has, and why there is none: 2 too short, 5 too large, 20 not in its form -/
def lk : List UInt8 → Nat × Nat × Nat
  | [] => (0, 0, 2)
  | x :: r => if r.length < ones x.toNat then (0, 0, 2) else if 9223372036854775807 < raw (x :: r) (ones x.toNat) then (0, 0, 5) else if fol (raw (x :: r) (ones x.toNat)) ≠ ones x.toNat then (0, 0, 20) else (raw (x :: r) (ones x.toNat), ones x.toNat + 1, 0)
theorem look_cons (x : UInt8) (r : List UInt8) : lk (x :: r) = if r.length < ones x.toNat then (0, 0, 2) else if 9223372036854775807 < raw (x :: r) (ones x.toNat) then (0, 0, 5) else if fol (raw (x :: r) (ones x.toNat)) ≠ ones x.toNat then (0, 0, 20) else (raw (x :: r) (ones x.toNat), ones x.toNat + 1, 0) := rfl
theorem hd_ones (u : Nat) (h : u ≤ 9223372036854775807) : ones (UInt8.ofNat (hd u)).toNat = fol u := by
  obtain ⟨h1, h2, h3⟩ := hd_lt u (by omega)
  rw [UInt8.toNat_ofNat_of_lt' (show hd u < UInt8.size from h1)]
  exact ones_of _ _ (fol_le u) h3 h2
theorem look_num (u : Nat) (r : List UInt8) (h : u ≤ 9223372036854775807) : lk (numB u ++ r) = (u, fol u + 1, 0) := by
  have ho := hd_ones u h
  have hv := vl_num u h
  have hraw : raw (numB u ++ r) (fol u) = u := by
    unfold raw
    rw [← numB_len, List.take_left, hv, Nat.add_sub_cancel_left]
  have e : numB u ++ r = UInt8.ofNat (hd u) :: (tl u (fol u) (fol u) ++ r) := rfl
  rw [e] at hraw ⊢
  rw [look_cons, ho, hraw, if_neg (by simp [tl_len]), if_neg (by omega), if_neg (by simp)]
theorem look_cut (u j : Nat) (h : u ≤ 9223372036854775807) (hj : j ≤ fol u) : lk ((numB u).take j) = (0, 0, 2) := by
  cases j with
  | zero => rfl
  | succ j =>
    have ho := hd_ones u h
    have e : (numB u).take (j + 1) = UInt8.ofNat (hd u) :: (tl u (fol u) (fol u)).take j := rfl
    rw [e, look_cons, ho, if_pos (by simp [tl_len]; omega)]
theorem look_ok {l : List UInt8} {n s : Nat} (h : lk l = (n, s, 0)) : l.take s = numB n ∧ s = fol n + 1 ∧ s ≤ l.length ∧ n ≤ 9223372036854775807 := by
  cases l with
  | nil => simp [lk] at h
  | cons x r =>
    rw [look_cons] at h
    have hx := lead_ones x.toNat x.toNat_lt
    generalize hk : ones x.toNat = k at h hx
    by_cases h1 : r.length < k
    · rw [if_pos h1] at h; simp at h
    · rw [if_neg h1] at h
      by_cases h2 : 9223372036854775807 < raw (x :: r) k
      · rw [if_pos h2] at h; simp at h
      · rw [if_neg h2] at h
        by_cases h3 : fol (raw (x :: r) k) ≠ k
        · rw [if_pos h3] at h; simp at h
        · rw [if_neg h3] at h
          have h3' : fol (raw (x :: r) k) = k := Classical.not_not.1 h3
          injection h with e1 e2
          injection e2 with e2 _
          subst e2
          subst e1
          have hlen : ((x :: r).take (k + 1)).length = k + 1 := by simp; omega
          have hge : lead k * 256 ^ k ≤ vl ((x :: r).take (k + 1)) := by
            have e : (x :: r).take (k + 1) = x :: r.take k := rfl
            have hl : (r.take k).length = k := by simp; omega
            rw [e, vl, hl]
            exact Nat.le_trans (Nat.mul_le_mul_right _ hx.1) (Nat.le_add_right _ _)
          refine ⟨vl_inj _ _ (by rw [hlen, numB_len, h3']) ?_, by rw [h3'], by simp; omega, by omega⟩
          rw [vl_num _ (by omega), h3']
          unfold raw
          omega
theorem look_err {l : List UInt8} : (lk l).2.2 = 0 ∨ (lk l = (0, 0, (lk l).2.2) ∧ ((lk l).2.2 = 2 ∨ (lk l).2.2 = 5 ∨ (lk l).2.2 = 20)) := by
  cases l with
  | nil => simp [lk]
  | cons x r =>
    rw [look_cons]
    repeat' split
    all_goals simp
/-- the number so far, of the first byte and j others -/
def prt (l : List UInt8) (k j : Nat) : Nat := vl (l.take (j + 1)) - lead k * 256 ^ j
theorem part_step {l : List UInt8} {x : UInt8} {r : List UInt8} {k j : Nat} (hl : l = x :: r) (hk : ones x.toNat = k) (hj : j < r.length) : prt l k (j + 1) = 256 * prt l k j + (r[j]).toNat ∧ lead k * 256 ^ j ≤ vl (l.take (j + 1)) := by
  subst hl
  have hx := lead_ones x.toNat x.toNat_lt
  rw [hk] at hx
  have hge : lead k * 256 ^ j ≤ vl ((x :: r).take (j + 1)) := by
    have e : (x :: r).take (j + 1) = x :: r.take j := rfl
    have hl : (r.take j).length = j := by simp; omega
    rw [e, vl, hl]
    exact Nat.le_trans (Nat.mul_le_mul_right _ hx.1) (Nat.le_add_right _ _)
  refine ⟨?_, hge⟩
  unfold prt
  rw [vl_take (x :: r) (j + 1) (by simp; omega), Nat.pow_succ, ← Nat.mul_assoc]
  simp only [List.getElem_cons_succ]
  omega
theorem prt_zero {x : UInt8} {r : List UInt8} {k : Nat} : prt (x :: r) k 0 = x.toNat - lead k := by simp [prt, vl]
theorem part_last (l : List UInt8) (k : Nat) : prt l k k = raw l k := rfl
theorem part_lt {l : List UInt8} {x : UInt8} {r : List UInt8} {k j : Nat} (hl : l = x :: r) (hk : ones x.toNat = k) (hj : j ≤ r.length) (hjk : j ≤ k) : prt l k j < 18446744073709551616 ∧ (j < k → prt l k j < 72057594037927936) := by
  subst hl
  have hx := lead_ones x.toNat x.toNat_lt
  rw [hk] at hx
  have hv : vl ((x :: r).take (j + 1)) < (lead k + 2 ^ (8 - k)) * 256 ^ j ∧ (k < 8 → vl ((x :: r).take (j + 1)) < (lead k + 2 ^ (7 - k)) * 256 ^ j) := by
    have e : (x :: r).take (j + 1) = x :: r.take j := rfl
    have hl : (r.take j).length = j := by simp; omega
    have h1 := vl_lt (r.take j)
    rw [hl] at h1
    rw [e, vl, hl]
    constructor
    · have hm : (x.toNat + 1) * 256 ^ j ≤ (lead k + 2 ^ (8 - k)) * 256 ^ j := Nat.mul_le_mul_right _ (by omega)
      rw [Nat.succ_mul] at hm
      omega
    · intro h8
      have := hx.2.2 h8
      have hm : (x.toNat + 1) * 256 ^ j ≤ (lead k + 2 ^ (7 - k)) * 256 ^ j := Nat.mul_le_mul_right _ (by omega)
      rw [Nat.succ_mul] at hm
      omega
  rw [Nat.add_mul, Nat.add_mul] at hv
  have h8 : k ≤ 8 := by rw [← hk]; exact ones_le _
  have b : prt (x :: r) k j < 2 ^ (8 - k) * 256 ^ j ∧ (k < 8 → prt (x :: r) k j < 2 ^ (7 - k) * 256 ^ j) := by
    have p1 : 0 < 2 ^ (8 - k) * 256 ^ j := Nat.mul_pos (Nat.two_pow_pos _) (Nat.pow_pos (by omega))
    have p2 : 0 < 2 ^ (7 - k) * 256 ^ j := Nat.mul_pos (Nat.two_pow_pos _) (Nat.pow_pos (by omega))
    unfold prt
    constructor
    · omega
    · intro h; have := hv.2 h; omega
  have e256 : ∀ j : Nat, (256 : Nat) ^ j = 2 ^ (8 * j) := fun j => by rw [Nat.pow_mul]
  have fin : ∀ a j : Nat, 2 ^ a * 256 ^ j = 2 ^ (a + 8 * j) := fun a j => by rw [e256, Nat.pow_add]
  rw [fin, fin] at b
  constructor
  · refine Nat.lt_of_lt_of_le b.1 (Nat.le_trans (Nat.pow_le_pow_right (by omega) (show 8 - k + 8 * j ≤ 64 by omega)) (by omega))
  · intro hlt
    rcases Nat.lt_or_ge k 8 with h | h
    · refine Nat.lt_of_lt_of_le (b.2 h) (Nat.le_trans (Nat.pow_le_pow_right (by omega) (show 7 - k + 8 * j ≤ 56 by omega)) (by omega))
    · refine Nat.lt_of_lt_of_le b.1 (Nat.le_trans (Nat.pow_le_pow_right (by omega) (show 8 - k + 8 * j ≤ 56 by omega)) (by omega))
end Go.Proofs.YtbcgnacfhpahkaaDoor.OM
