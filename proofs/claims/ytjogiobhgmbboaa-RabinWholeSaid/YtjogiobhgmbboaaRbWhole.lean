/- Prime polynomials: plain mathematics. By a polynomial that passes the test no product of two others is nothing. -/
import Derived.Test.YtjogiobhgmbboaaRbJ
namespace Go.Proofs.Ytjogiobhgmbboaa.rb
set_option linter.unusedVariables false
/-- a divides b -/
def dv (a b : Nat) : Prop := ∃ q, b = cm q a
theorem dv_refl (a : Nat) : dv a a := ⟨1, (cm_one a).symm⟩
theorem dv_zero (a : Nat) : dv a 0 := ⟨0, (cm_zero a).symm⟩
theorem dv_trans {a b c : Nat} (h : dv a b) (k : dv b c) : dv a c := by
  obtain ⟨q, rfl⟩ := h
  obtain ⟨r, rfl⟩ := k
  exact ⟨cm r q, by rw [cm_assoc]⟩
theorem dv_x {a b c : Nat} (h : dv a b) (k : dv a c) : dv a (b ^^^ c) := by
  obtain ⟨q, rfl⟩ := h
  obtain ⟨r, rfl⟩ := k
  exact ⟨q ^^^ r, by rw [cm_xl]⟩
theorem dv_cm {a b : Nat} (c : Nat) (h : dv a b) : dv a (cm c b) := by
  obtain ⟨q, rfl⟩ := h
  exact ⟨cm c q, by rw [cm_assoc]⟩
theorem dv_cong {a b : Nat} (p : Nat) : cong p a b ↔ dv p (a ^^^ b) := Iff.rfl
theorem dv_md {a p : Nat} : dv p a ↔ md a p = 0 := md_eq_zero.symm
theorem dv_md_x (a p : Nat) : dv p (a ^^^ md a p) := by
  have := md_cong a p
  rw [x_comm]; exact this
theorem dv_gd : ∀ (n a b d : Nat), b < n → dv d a → dv d b → dv d (gd a b)
  | 0, a, b, d, h, _, _ => by omega
  | n + 1, a, b, d, h, ha, hb => by
    by_cases c : b = 0
    · subst c; rw [gd_zero]; exact ha
    · rw [gd_step c]
      have lt := md_less (a := a) c
      refine dv_gd n b (md a b) d (by omega) hb ?_
      have h1 : dv d (a ^^^ md a b) := dv_trans hb (dv_md_x a b)
      have := dv_x ha h1
      rwa [x_self_left] at this
/-- what both share is a sum of their multiples -/
theorem bezout : ∀ (n a b : Nat), b < n → ∃ u v, gd a b = cm u a ^^^ cm v b
  | 0, a, b, h => by omega
  | n + 1, a, b, h => by
    by_cases c : b = 0
    · subst c; exact ⟨1, 0, by rw [gd_zero, cm_one, cm_zero, Nat.xor_zero]⟩
    · rw [gd_step c]
      have lt := md_less (a := a) c
      obtain ⟨u, v, e⟩ := bezout n b (md a b) (by omega)
      obtain ⟨s, hs⟩ := dv_md_x a b
      have hm : md a b = a ^^^ cm s b := by rw [← hs, x_self_left]
      refine ⟨v, u ^^^ cm v s, ?_⟩
      rw [e, cm_xl, cm_assoc]
      conv => lhs; rw [hm, cm_xr]
      simp only [x_left]
theorem log_one {a : Nat} (h0 : a ≠ 0) (h : a.log2 = 0) : a = 1 := by
  have := (deg_of h0).2
  rw [h] at this
  omega
/-- it has no parts but itself and 1 -/
def Irr (p : Nat) : Prop := 1 ≤ p.log2 ∧ ∀ a b, p = cm a b → a.log2 = 0 ∨ b.log2 = 0
theorem irr_ne {p : Nat} (h : Irr p) : p ≠ 0 := by
  intro e
  have := h.1
  rw [e] at this
  simp at this
/-- what has no parts divides one of both, if it divides their product -/
theorem euclid {p a b : Nat} (hp : Irr p) (h : dv p (cm a b)) : dv p a ∨ dv p b := by
  have p0 := irr_ne hp
  obtain ⟨q, hq⟩ := gd_right a p
  obtain ⟨r, hr⟩ := gd_left a p
  have g0 : gd a p ≠ 0 := fun e => p0 (gd_none e).2
  have q0 : q ≠ 0 := by intro e; rw [e, cm_zero] at hq; exact p0 hq
  rcases hp.2 q (gd a p) hq with e | e
  · left
    have q1 := log_one q0 e
    rw [q1, cm_one] at hq
    rw [← hq] at hr
    exact ⟨r, hr⟩
  · right
    have g1 := log_one g0 e
    obtain ⟨u, v, hb⟩ := bezout (p + 1) a p (by omega)
    rw [g1] at hb
    have e2 : b = cm u (cm a b) ^^^ cm (cm v b) p := by
      have : cm 1 b = cm (cm u a ^^^ cm v p) b := by rw [← hb]
      rw [cm_one, cm_xl, cm_assoc, cm_assoc] at this
      exact this.trans (by rw [cm_assoc v b p, cm_comm b p])
    rw [e2]
    exact dv_x (dv_cm u h) ⟨cm v b, rfl⟩
/-- products of lists -/
def prod : List Nat → Nat
  | [] => 1
  | a :: l => cm a (prod l)
theorem prod_perm {l r : List Nat} (h : l.Perm r) : prod l = prod r := by
  induction h with
  | nil => rfl
  | cons x _ ih => simp only [prod, ih]
  | swap x y l =>
    show cm y (cm x (prod l)) = cm x (cm y (prod l))
    rw [← cm_assoc, cm_comm y x, cm_assoc]
  | trans _ _ h1 h2 => exact h1.trans h2
theorem prod_twice (q : Nat) : ∀ (l : List Nat), cong q (prod (l.map fun a => md (2 * a) q)) (cm (2 ^ l.length) (prod l))
  | [] => by
    show cong q 1 (cm (2 ^ 0) 1)
    rw [Nat.pow_zero, cm_one]; exact cong_refl q 1
  | a :: l => by
    have ih := prod_twice q l
    show cong q (cm (md (2 * a) q) (prod (l.map _))) (cm (2 ^ (l.length + 1)) (cm a (prod l)))
    have e1 := cong_cm (md (2 * a) q) ih
    have e2 := cong_cm (cm (2 ^ l.length) (prod l)) (md_cong (2 * a) q)
    rw [cm_comm, cm_comm _ (2 * a)] at e2
    refine cong_trans e1 ?_
    have e3 : cm (2 * a) (cm (2 ^ l.length) (prod l)) = cm (2 ^ (l.length + 1)) (cm a (prod l)) := by
      rw [two_cm, ← cm_assoc, cm_comm a, cm_assoc, show 2 ^ (l.length + 1) = 2 * 2 ^ l.length by rw [Nat.pow_succ, Nat.mul_comm], two_cm]
    rw [← e3]
    exact e2
theorem prod_ne {q : Nat} (hq : Irr q) : ∀ (l : List Nat), (∀ a ∈ l, ¬ dv q a) → ¬ dv q (prod l)
  | [], _ => by
    intro h
    have h1 : md 1 q = 0 := dv_md.1 h
    rw [md_of_low (show (1 : Nat) < 2 ^ q.log2 from Nat.one_lt_two_pow (by have := hq.1; omega))] at h1
    cases h1
  | a :: l, h => by
    intro k
    rcases euclid hq k with e | e
    · exact h a (List.mem_cons_self ..) e
    · exact prod_ne hq l (fun b hb => h b (List.mem_cons_of_mem _ hb)) e
theorem perm_of : ∀ (l r : List Nat), l.Nodup → (∀ x ∈ l, x ∈ r) → r.length ≤ l.length → l.Perm r
  | [], r, _, _, h => by
    have : r = [] := List.eq_nil_of_length_eq_zero (by simpa using h)
    rw [this]
  | a :: l, r, hn, hm, h => by
    have ha := hm a (List.mem_cons_self ..)
    have hn2 := List.nodup_cons.1 hn
    have hp := List.perm_cons_erase ha
    refine (List.Perm.cons a (perm_of l (r.erase a) hn2.2 (fun x hx => ?_) ?_)).trans hp.symm
    · exact (List.mem_erase_of_ne (fun e => hn2.1 (by rw [← e]; exact hx))).2 (hm x (List.mem_cons_of_mem _ hx))
    · rw [List.length_erase_of_mem ha]
      simp at h
      omega
/-- by what has no parts, x to the 2 to its degree is x -/
theorem fermat {q : Nat} (hq : Irr q) : cong q (2 ^ (2 ^ q.log2)) 2 := by
  have q0 := irr_ne hq
  have hpos : 1 ≤ 2 ^ q.log2 := Nat.one_le_two_pow
  by_cases h2 : dv q 2
  · have h3 : dv q (2 ^ (2 ^ q.log2)) := by
      have : 2 ^ (2 ^ q.log2) = cm (2 ^ (2 ^ q.log2 - 1)) 2 := by rw [cm_shift, Nat.mul_comm, ← Nat.pow_succ]; congr 1; omega
      rw [this]; exact dv_cm _ h2
    exact dv_x h3 h2
  · obtain ⟨U, hU⟩ : ∃ U, U = List.range' 1 (2 ^ q.log2 - 1) := ⟨_, rfl⟩
    have hm : ∀ a, a ∈ U ↔ 1 ≤ a ∧ a < 2 ^ q.log2 := by
      intro a
      rw [hU, List.mem_range'_1]
      omega
    have hno : ∀ a ∈ U, ¬ dv q a := by
      intro a ha h
      have hb := (hm a).1 ha
      have := dv_md.1 h
      rw [md_of_low hb.2] at this
      omega
    have hnd : U.Nodup := by rw [hU]; exact List.nodup_range'
    have hlen : U.length = 2 ^ q.log2 - 1 := by rw [hU, List.length_range']
    have hinj : ∀ a ∈ U, ∀ b ∈ U, md (2 * a) q = md (2 * b) q → a = b := by
      intro a ha b hb e
      have h1 : md (cm 2 (a ^^^ b)) q = 0 := by rw [show (2 : Nat) = 2 ^ 1 from rfl, cm_shift, Nat.pow_one, Nat.mul_comm, two_x, md_x, e, Nat.xor_self]
      rcases euclid hq (dv_md.2 h1) with e1 | e1
      · exact absurd e1 h2
      · have h3 := dv_md.1 e1
        rw [md_of_low (Nat.xor_lt_two_pow ((hm a).1 ha).2 ((hm b).1 hb).2)] at h3
        exact x_eq_zero h3
    have hperm : (U.map fun a => md (2 * a) q).Perm U := by
      refine perm_of _ _ ?_ ?_ (by rw [List.length_map]; exact Nat.le_refl _)
      · refine List.pairwise_map.2 ?_
        exact List.Pairwise.imp_of_mem (fun {a b} ha hb hab e => hab (hinj a ha b hb e)) hnd
      · intro x hx
        obtain ⟨a, ha, rfl⟩ := List.mem_map.1 hx
        refine (hm _).2 ⟨?_, md_low q0 _⟩
        apply Nat.one_le_iff_ne_zero.2
        intro e
        have h1 : dv q (cm 2 a) := dv_md.2 (by rw [show (2 : Nat) = 2 ^ 1 from rfl, cm_shift, Nat.pow_one, Nat.mul_comm]; exact e)
        rcases euclid hq h1 with e1 | e1
        · exact h2 e1
        · exact hno a ha e1
    have h5 := prod_twice q U
    rw [prod_perm hperm, hlen] at h5
    have h6 : dv q (cm (1 ^^^ 2 ^ (2 ^ q.log2 - 1)) (prod U)) := by
      rw [cm_xl, cm_one]; exact h5
    rcases euclid hq h6 with e | e
    · have h7 := dv_cm 2 e
      rw [cm_xr, cm_one_r] at h7
      have h8 : cm 2 (2 ^ (2 ^ q.log2 - 1)) = 2 ^ (2 ^ q.log2) := by
        rw [show (2 : Nat) = 2 ^ 1 from rfl, cm_shift, ← Nat.pow_add]
        simp only [Nat.pow_one]
        congr 1; omega
      rw [h8, x_comm] at h7
      exact h7
    · exact absurd e (prod_ne hq U hno)
/-- the test's squares -/
def sq (p : Nat) : Nat → Nat
  | 0 => 2
  | n + 1 => ml (sq p n) (sq p n) p
theorem sq_shift (p : Nat) : ∀ (n q m : Nat), q = sq p m → (primeF p n q = true → ∀ i, i < n → gd (sq p (m + i + 1) ^^^ 2) p = 1)
  | 0, q, m, h, _, i, hi => by omega
  | n + 1, q, m, h, hF, i, hi => by
    unfold primeF at hF
    by_cases c : gd (ml q q p ^^^ 2) p = 1
    · rw [if_pos c] at hF
      have hq : ml q q p = sq p (m + 1) := by rw [h]; rfl
      cases i with
      | zero => rw [Nat.add_zero, ← hq]; exact c
      | succ i =>
        have := sq_shift p n (ml q q p) (m + 1) hq hF i (by omega)
        rwa [show m + 1 + i + 1 = m + (i + 1) + 1 by omega] at this
    · rw [if_neg c] at hF; cases hF
theorem sq_pow {p : Nat} (h : ¬ (p = 0 ∨ 62 < p.log2)) : ∀ n, cong p (sq p n) (2 ^ (2 ^ n))
  | 0 => cong_refl p 2
  | n + 1 => by
    have ih := sq_pow h n
    unfold sq
    rw [ml_some h]
    refine cong_trans (md_cong _ p) ?_
    have e1 := cong_cm (sq p n) ih
    have e2 := cong_cm (2 ^ (2 ^ n)) ih
    rw [cm_comm] at e2
    refine cong_trans e1 (cong_trans e2 ?_)
    rw [cm_shift, ← Nat.pow_add, ← Nat.two_mul, Nat.mul_comm, ← Nat.pow_succ]
    exact cong_refl _ _
theorem cong_dv {p q a b : Nat} (h : dv q p) (k : cong p a b) : cong q a b := dv_trans h k
theorem log_dv {a b : Nat} (hb : b ≠ 0) (h : dv a b) : a ≠ 0 ∧ a.log2 ≤ b.log2 := by
  obtain ⟨q, rfl⟩ := h
  have ha : a ≠ 0 := by intro e; rw [e, cm_zero_r] at hb; exact hb rfl
  have hq : q ≠ 0 := by intro e; rw [e, cm_zero] at hb; exact hb rfl
  rw [log_cm hq ha]
  exact ⟨ha, by omega⟩
theorem lt_of_log {a b : Nat} (ha : a ≠ 0) (hb : b ≠ 0) (h : a.log2 < b.log2) : a < b := by
  have h1 := (deg_of ha).2
  have h2 := (deg_of hb).1
  have := Nat.pow_le_pow_right (n := 2) (by decide) (show a.log2 + 1 ≤ b.log2 by omega)
  omega
/-- who has a part of a degree of 1 to k has one that has no parts -/
theorem least_part {p k : Nat} (p0 : p ≠ 0) : ∀ (n a : Nat), a < n → dv a p → 1 ≤ a.log2 → a.log2 ≤ k → ∃ q, Irr q ∧ dv q p ∧ q.log2 ≤ k
  | 0, a, h, _, _, _ => by omega
  | n + 1, a, h, hd, h1, hk => by
    by_cases c : ∃ b, dv b a ∧ 1 ≤ b.log2 ∧ b.log2 < a.log2
    · obtain ⟨b, hb, hb1, hb2⟩ := c
      have a0 := (log_dv p0 hd).1
      have b0 := (log_dv a0 hb).1
      have := lt_of_log b0 a0 hb2
      exact least_part p0 n b (by omega) (dv_trans hb hd) hb1 (by omega)
    · refine ⟨a, ⟨h1, fun x y e => ?_⟩, hd, hk⟩
      have a0 := (log_dv p0 hd).1
      by_cases hx : x.log2 = 0
      · exact Or.inl hx
      · right
        have hy0 : y ≠ 0 := by intro z; rw [z, cm_zero_r] at e; exact a0 e
        have hx0 : x ≠ 0 := by intro z; rw [z, cm_zero] at e; exact a0 e
        have hl := log_cm hx0 hy0
        rw [← e] at hl
        by_cases hy : y.log2 = 0
        · exact hy
        · exact absurd ⟨y, ⟨x, e⟩, by omega, by omega⟩ c
/-- what passes the test has no parts -/
theorem prime_irr {p : Nat} (h : primeB p = true) : Irr p := by
  unfold primeB at h
  by_cases c : dg p < 1 ∨ 31 < dg p
  · rw [if_pos c] at h; cases h
  · rw [if_neg c] at h
    have p0 : p ≠ 0 := by intro e; subst e; rw [dg_zero] at c; omega
    have hd := dg_pos p0
    have hl1 : 1 ≤ p.log2 := by omega
    refine ⟨hl1, fun a b e => ?_⟩
    have a0 : a ≠ 0 := by intro z; rw [z, cm_zero] at e; exact p0 e
    have b0 : b ≠ 0 := by intro z; rw [z, cm_zero_r] at e; exact p0 e
    have hl := log_cm a0 b0
    rw [← e] at hl
    by_cases ha : a.log2 = 0
    · exact Or.inl ha
    · by_cases hb : b.log2 = 0
      · exact Or.inr hb
      · exfalso
        have hpart : ∃ q, Irr q ∧ dv q p ∧ q.log2 ≤ p.log2 / 2 := by
          by_cases hab : a.log2 ≤ b.log2
          · exact least_part p0 (a + 1) a (by omega) ⟨b, by rw [e, cm_comm]⟩ (by omega) (by omega)
          · exact least_part p0 (b + 1) b (by omega) ⟨a, e⟩ (by omega) (by omega)
        obtain ⟨q, hq, hqp, hqk⟩ := hpart
        have hq1 := hq.1
        have hs := sq_shift p (p.log2 / 2) 2 0 rfl h (q.log2 - 1) (by omega)
        rw [show 0 + (q.log2 - 1) + 1 = q.log2 by omega] at hs
        have h1 := cong_dv hqp (sq_pow (p := p) (by omega) q.log2)
        have h2 := cong_trans h1 (fermat hq)
        have h3 := dv_gd (p + 1) (sq p q.log2 ^^^ 2) p q (by omega) h2 hqp
        rw [hs] at h3
        have := (log_dv (by decide) h3).2
        rw [show (1 : Nat).log2 = 0 from by decide] at this
        omega
/-- by what passes the test no product is nothing -/
theorem whole {p a b : Nat} (h : primeB p = true) (ha : a < 2 ^ p.log2) (hb : b < 2 ^ p.log2) (h62 : ¬ (p = 0 ∨ 62 < p.log2)) : ml a b p = 0 ↔ a = 0 ∨ b = 0 := by
  rw [ml_some h62]
  constructor
  · intro e
    rcases euclid (prime_irr h) (dv_md.2 e) with k | k
    · right; have := dv_md.1 k; rwa [md_of_low hb] at this
    · left; have := dv_md.1 k; rwa [md_of_low ha] at this
  · rintro (e | e)
    · rw [e, cm_zero_r, md_zero]
    · rw [e, cm_zero, md_zero]
end Go.Proofs.Ytjogiobhgmbboaa.rb
