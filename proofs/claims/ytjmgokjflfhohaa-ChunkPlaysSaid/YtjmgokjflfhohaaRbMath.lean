/- Polynomials whose coefficients are 0 and 1, as the bits of numbers: plain mathematics. -/
namespace Go.Proofs.Ytjmgokjflfhohaa.rb
set_option linter.unusedVariables false

/- numbers and their bits -/
theorem x_comm (a b : Nat) : a ^^^ b = b ^^^ a := Nat.xor_comm a b
theorem x_assoc (a b c : Nat) : a ^^^ b ^^^ c = a ^^^ (b ^^^ c) := Nat.xor_assoc a b c
theorem x_left (a b c : Nat) : a ^^^ (b ^^^ c) = b ^^^ (a ^^^ c) := by rw [← x_assoc, x_comm a b, x_assoc]
theorem x_self_left (a b : Nat) : a ^^^ (a ^^^ b) = b := by rw [← x_assoc, Nat.xor_self, Nat.zero_xor]
theorem x_cancel {a b c : Nat} (h : a ^^^ b = c) : a = b ^^^ c := by rw [← h, x_comm a b, x_self_left]
theorem x_eq_zero {a b : Nat} (h : a ^^^ b = 0) : a = b := by have := x_cancel h; simpa using this
theorem two_x (a b : Nat) : 2 * (a ^^^ b) = 2 * a ^^^ 2 * b := by
  have h := Nat.shiftLeft_xor_distrib (a := a) (b := b) (i := 1)
  simp only [Nat.shiftLeft_eq, Nat.pow_one, Nat.mul_comm _ 2] at h
  exact h
theorem half_x (a b : Nat) : (a ^^^ b) / 2 = a / 2 ^^^ b / 2 := by
  have h := Nat.shiftRight_xor_distrib (a := a) (b := b) (i := 1)
  simpa [Nat.shiftRight_eq_div_pow] using h
theorem odd_x (a b : Nat) : (a ^^^ b) % 2 = (a % 2 + b % 2) % 2 := by
  have h := Nat.xor_mod_two_pow (a := a) (b := b) (n := 1)
  simp only [Nat.pow_one] at h
  rw [h]
  rcases Nat.mod_two_eq_zero_or_one a with ha | ha <;> rcases Nat.mod_two_eq_zero_or_one b with hb | hb <;> rw [ha, hb] <;> rfl
theorem split2 (a : Nat) : a = a % 2 ^^^ 2 * (a / 2) := by
  have e1 : (a % 2 ^^^ 2 * (a / 2)) / 2 = a / 2 := by
    rw [half_x]
    have : a % 2 / 2 = 0 := by omega
    have h2 : 2 * (a / 2) / 2 = a / 2 := by omega
    rw [this, h2, Nat.zero_xor]
  have e2 : (a % 2 ^^^ 2 * (a / 2)) % 2 = a % 2 := by rw [odd_x]; omega
  omega
theorem top_x {n x y : Nat} (h1 : 2 ^ n ≤ x) (h2 : x < 2 ^ (n + 1)) (hy : y < 2 ^ n) : 2 ^ n ≤ x ^^^ y ∧ x ^^^ y < 2 ^ (n + 1) := by
  have hy' : y < 2 ^ (n + 1) := Nat.lt_of_lt_of_le hy (Nat.pow_le_pow_right (by decide) (by omega))
  refine ⟨?_, Nat.xor_lt_two_pow h2 hy'⟩
  apply Nat.le_of_not_lt
  intro h
  have h3 := Nat.xor_lt_two_pow h hy
  rw [x_assoc, Nat.xor_self, Nat.xor_zero] at h3
  omega
/-- both have their highest bit there -/
theorem top_xx {n x y : Nat} (h1 : 2 ^ n ≤ x) (h2 : x < 2 ^ (n + 1)) (h3 : 2 ^ n ≤ y) (h4 : y < 2 ^ (n + 1)) : x ^^^ y < 2 ^ n := by
  have b := Nat.xor_lt_two_pow h2 h4
  apply Nat.lt_pow_two_of_testBit
  intro i hi
  rcases Nat.lt_or_ge n i with h | h
  · exact Nat.testBit_lt_two_pow (Nat.lt_of_lt_of_le b (Nat.pow_le_pow_right (by decide) (by omega)))
  · have e : i = n := by omega
    subst e
    have t : ∀ z, 2 ^ i ≤ z → z < 2 ^ (i + 1) → z.testBit i = true := by
      intro z z1 z2
      rw [Nat.testBit_eq_decide_div_mod_eq]
      have p2 : 2 ^ (i + 1) = 2 * 2 ^ i := by rw [Nat.pow_succ]; omega
      have : z / 2 ^ i = 1 := by
        apply Nat.le_antisymm
        · have : z / 2 ^ i < 2 := by rw [Nat.div_lt_iff_lt_mul (Nat.two_pow_pos i)]; omega
          omega
        · rw [Nat.le_div_iff_mul_le (Nat.two_pow_pos i)]; omega
      rw [this]; rfl
    rw [Nat.testBit_xor, t x h1 h2, t y h3 h4]; rfl

/-- the product -/
def cm (a b : Nat) : Nat := if h : a = 0 then 0 else (if a % 2 = 1 then b else 0) ^^^ 2 * cm (a / 2) b
termination_by a
decreasing_by omega
theorem cm_zero (b : Nat) : cm 0 b = 0 := by rw [cm]; rfl
theorem cm_eq (a b : Nat) : cm a b = (if a % 2 = 1 then b else 0) ^^^ 2 * cm (a / 2) b := by
  by_cases h : a = 0
  · subst h; simp [cm_zero]
  · rw [cm, dif_neg h]
theorem cm_one (b : Nat) : cm 1 b = b := by rw [cm_eq]; simp [cm_zero]
theorem bin (P : Nat → Prop) (h0 : P 0) (hs : ∀ a, a ≠ 0 → P (a / 2) → P a) : ∀ a, P a := by
  intro a
  induction a using Nat.strongRecOn with
  | _ a ih =>
    by_cases h : a = 0
    · subst h; exact h0
    · exact hs a h (ih _ (by omega))
theorem cm_xr (a b c : Nat) : cm a (b ^^^ c) = cm a b ^^^ cm a c := by
  revert a
  apply bin
  · simp [cm_zero]
  · intro a _ ih
    rw [cm_eq a (b ^^^ c), cm_eq a b, cm_eq a c, ih, two_x]
    by_cases h : a % 2 = 1
    · simp only [h, if_true, x_assoc, x_left]
    · simp only [h, if_false, Nat.zero_xor]
theorem cm_two (a b : Nat) : cm a (2 * b) = 2 * cm a b := by
  revert a
  apply bin
  · simp [cm_zero]
  · intro a _ ih
    rw [cm_eq a (2 * b), cm_eq a b, ih, two_x]
    by_cases h : a % 2 = 1
    · simp only [h, if_true]
    · simp only [h, if_false, Nat.mul_zero]
theorem two_cm (a b : Nat) : cm (2 * a) b = 2 * cm a b := by
  rw [cm_eq]
  have h1 : 2 * a % 2 = 0 := by omega
  have h2 : 2 * a / 2 = a := by omega
  rw [h1, h2]; simp
theorem cm_xl (a b c : Nat) : cm (a ^^^ b) c = cm a c ^^^ cm b c := by
  revert b
  revert a
  apply bin (fun a => ∀ b, cm (a ^^^ b) c = cm a c ^^^ cm b c)
  · intro b; simp [cm_zero]
  · intro a _ ih b
    rw [cm_eq (a ^^^ b) c, cm_eq a c, cm_eq b c, half_x, odd_x, ih, two_x]
    rcases Nat.mod_two_eq_zero_or_one a with ha | ha <;> rcases Nat.mod_two_eq_zero_or_one b with hb | hb <;> simp only [ha, hb]
    · simp
    · simp [x_left]
    · simp [x_assoc]
    · have := x_self_left c (2 * cm (a / 2) c ^^^ 2 * cm (b / 2) c)
      simp only [x_assoc, x_left] at this ⊢
      simpa using this.symm
theorem cm_zero_r (a : Nat) : cm a 0 = 0 := by
  have := cm_xr a 0 0
  simp at this
  exact this
theorem cm_one_r (a : Nat) : cm a 1 = a := by
  revert a
  apply bin
  · exact cm_zero 1
  · intro a _ ih
    rw [cm_eq, ih]
    have h := split2 a
    rcases Nat.mod_two_eq_zero_or_one a with ha | ha
    · rw [ha] at h ⊢; simpa using h.symm
    · rw [ha] at h ⊢; simpa using h.symm
theorem cm_comm (a b : Nat) : cm a b = cm b a := by
  revert a
  apply bin
  · rw [cm_zero, cm_zero_r]
  · intro a _ ih
    have h : cm b a = cm b (a % 2) ^^^ 2 * cm b (a / 2) := by rw [← cm_two, ← cm_xr, ← split2]
    rw [cm_eq, ih, h]
    rcases Nat.mod_two_eq_zero_or_one a with ha | ha <;> rw [ha]
    · simp [cm_zero_r]
    · simp [cm_one_r]
theorem cm_assoc (a b c : Nat) : cm (cm a b) c = cm a (cm b c) := by
  revert a
  apply bin
  · rw [cm_zero, cm_zero, cm_zero]
  · intro a _ ih
    rw [cm_eq a b, cm_xl, two_cm, ih, cm_eq a (cm b c)]
    by_cases h : a % 2 = 1
    · simp [h]
    · simp [h, cm_zero]
theorem cm_deg {i j : Nat} : ∀ {a b : Nat}, 2 ^ i ≤ a → a < 2 ^ (i + 1) → 2 ^ j ≤ b → b < 2 ^ (j + 1) → 2 ^ (i + j) ≤ cm a b ∧ cm a b < 2 ^ (i + j + 1) := by
  induction i with
  | zero =>
    intro a b h1 h2 h3 h4
    have : a = 1 := by simp at h1 h2; omega
    subst this
    rw [cm_one]; simpa using ⟨h3, h4⟩
  | succ i ih =>
    intro a b h1 h2 h3 h4
    have e1 : 2 ^ (i + 1) = 2 * 2 ^ i := by rw [Nat.pow_succ]; omega
    have e2 : 2 ^ (i + 1 + 1) = 2 * 2 ^ (i + 1) := by rw [Nat.pow_succ]; omega
    have k := ih (a := a / 2) (b := b) (by omega) (by omega) h3 h4
    rw [cm_eq, x_comm]
    have e3 : 2 ^ (i + 1 + j) = 2 * 2 ^ (i + j) := by rw [show i + 1 + j = (i + j) + 1 by omega, Nat.pow_succ]; omega
    have e4 : 2 ^ (i + 1 + j + 1) = 2 * 2 ^ (i + j + 1) := by rw [show i + 1 + j + 1 = (i + j + 1) + 1 by omega, Nat.pow_succ]; omega
    apply top_x
    · omega
    · omega
    · have : 2 ^ (j + 1) ≤ 2 ^ (i + 1 + j) := Nat.pow_le_pow_right (by decide) (by omega)
      have p := Nat.two_pow_pos (i + 1 + j)
      split <;> omega
theorem deg_of {a : Nat} (h : a ≠ 0) : 2 ^ a.log2 ≤ a ∧ a < 2 ^ (a.log2 + 1) := ⟨Nat.log2_self_le h, Nat.lt_log2_self⟩
theorem cm_ne {a b : Nat} (ha : a ≠ 0) (hb : b ≠ 0) : cm a b ≠ 0 := by
  have h := cm_deg (deg_of ha).1 (deg_of ha).2 (deg_of hb).1 (deg_of hb).2
  have := Nat.two_pow_pos (a.log2 + b.log2)
  omega
/-- a multiple that is of a lesser degree is nothing -/
theorem cm_low {q p : Nat} (hp : p ≠ 0) (h : cm q p < 2 ^ p.log2) : q = 0 := by
  by_cases hq : q = 0
  · exact hq
  · have k := cm_deg (deg_of hq).1 (deg_of hq).2 (deg_of hp).1 (deg_of hp).2
    have := Nat.pow_le_pow_right (n := 2) (by decide) (show p.log2 ≤ q.log2 + p.log2 by omega)
    omega
theorem cm_shift (k p : Nat) : cm (2 ^ k) p = p * 2 ^ k := by
  induction k with
  | zero => simp [cm_one]
  | succ k ih => rw [show 2 ^ (k + 1) = 2 * 2 ^ k by rw [Nat.pow_succ]; omega, two_cm, ih, Nat.mul_left_comm]

/-- they differ by a multiple -/
def cong (p a b : Nat) : Prop := ∃ q, a ^^^ b = cm q p
theorem cong_refl (p a : Nat) : cong p a a := ⟨0, by rw [cm_zero, Nat.xor_self]⟩
theorem cong_symm {p a b : Nat} (h : cong p a b) : cong p b a := by obtain ⟨q, h⟩ := h; exact ⟨q, by rw [x_comm, h]⟩
theorem cong_trans {p a b c : Nat} (h : cong p a b) (k : cong p b c) : cong p a c := by
  obtain ⟨q, h⟩ := h
  obtain ⟨r, k⟩ := k
  refine ⟨q ^^^ r, ?_⟩
  rw [cm_xl, ← h, ← k, x_assoc, x_self_left]
theorem cong_x {p a b c d : Nat} (h : cong p a b) (k : cong p c d) : cong p (a ^^^ c) (b ^^^ d) := by
  obtain ⟨q, h⟩ := h
  obtain ⟨r, k⟩ := k
  refine ⟨q ^^^ r, ?_⟩
  rw [cm_xl, ← h, ← k]
  simp only [x_assoc, x_left]
theorem cong_cm {p a b : Nat} (c : Nat) (h : cong p a b) : cong p (cm c a) (cm c b) := by
  obtain ⟨q, h⟩ := h
  exact ⟨cm c q, by rw [← cm_xr, h, cm_assoc]⟩
theorem cong_two {p a b : Nat} (h : cong p a b) : cong p (2 * a) (2 * b) := by
  obtain ⟨q, h⟩ := h
  exact ⟨2 * q, by rw [← two_x, h, two_cm]⟩
theorem cong_add {p : Nat} (a k : Nat) : cong p (a ^^^ p * 2 ^ k) a := ⟨2 ^ k, by rw [cm_shift, x_comm a, x_assoc, Nat.xor_self, Nat.xor_zero]⟩
theorem cong_low {p a b : Nat} (hp : p ≠ 0) (h : cong p a b) (ha : a < 2 ^ p.log2) (hb : b < 2 ^ p.log2) : a = b := by
  obtain ⟨q, h⟩ := h
  have l : cm q p < 2 ^ p.log2 := by rw [← h]; exact Nat.xor_lt_two_pow ha hb
  rw [cm_low hp l, cm_zero] at h
  exact x_eq_zero h

/-- what is left -/
def red (p r : Nat) : Nat := if r < 2 ^ p.log2 then r else r ^^^ p
def md (a p : Nat) : Nat := if h : a = 0 then 0 else if p = 0 then a else red p (2 * md (a / 2) p ^^^ a % 2)
termination_by a
decreasing_by omega
theorem md_zero (p : Nat) : md 0 p = 0 := by rw [md]; rfl
theorem md_none (a : Nat) : md a 0 = a := by
  by_cases h : a = 0
  · subst h; rw [md]; rfl
  · rw [md, dif_neg h, if_pos rfl]
theorem red_low {p r : Nat} (hp : p ≠ 0) (h : r < 2 ^ (p.log2 + 1)) : red p r < 2 ^ p.log2 := by
  unfold red
  by_cases c : r < 2 ^ p.log2
  · rw [if_pos c]; exact c
  · rw [if_neg c]; exact top_xx (by omega) h (deg_of hp).1 (deg_of hp).2
theorem red_cong (p r : Nat) : cong p (red p r) r := by
  unfold red
  split
  · exact cong_refl p r
  · have := cong_add (p := p) r 0
    simpa using this
theorem md_spec {p : Nat} (hp : p ≠ 0) : ∀ a, md a p < 2 ^ p.log2 ∧ cong p (md a p) a := by
  apply bin
  · rw [md_zero]; exact ⟨Nat.two_pow_pos _, cong_refl p 0⟩
  · intro a ha ih
    rw [md, dif_neg ha, if_neg hp]
    constructor
    · apply red_low hp
      have : 2 ^ (p.log2 + 1) = 2 * 2 ^ p.log2 := by rw [Nat.pow_succ]; omega
      apply Nat.xor_lt_two_pow
      · omega
      · have := Nat.two_pow_pos p.log2; omega
    · refine cong_trans (red_cong p _) ?_
      have k := cong_x (cong_two ih.2) (cong_refl p (a % 2))
      rwa [x_comm (2 * (a / 2)), ← split2] at k
theorem md_low {p : Nat} (hp : p ≠ 0) (a : Nat) : md a p < 2 ^ p.log2 := (md_spec hp a).1
theorem md_cong (a p : Nat) : cong p (md a p) a := by
  by_cases hp : p = 0
  · subst hp; rw [md_none]; exact cong_refl _ _
  · exact (md_spec hp a).2
/-- who is of a lesser degree and differs by a multiple is what is left -/
theorem md_unique {p a r : Nat} (hp : p ≠ 0) (hr : r < 2 ^ p.log2) (h : cong p r a) : r = md a p :=
  cong_low hp (cong_trans h (cong_symm (md_cong a p))) hr (md_low hp a)
theorem md_eq_of {p a b : Nat} (h : cong p a b) : md a p = md b p := by
  by_cases hp : p = 0
  · subst hp
    obtain ⟨q, h⟩ := h
    rw [cm_zero_r] at h
    rw [x_eq_zero h]
  · exact md_unique hp (md_low hp a) (cong_trans (md_cong a p) h)
theorem md_of_low {p a : Nat} (h : a < 2 ^ p.log2) : md a p = a := by
  by_cases hp : p = 0
  · subst hp; exact md_none a
  · exact (md_unique hp h (cong_refl p a)).symm
theorem md_md (a p : Nat) : md (md a p) p = md a p := md_eq_of (md_cong a p)
theorem md_x (a b p : Nat) : md (a ^^^ b) p = md a p ^^^ md b p := by
  by_cases hp : p = 0
  · subst hp; simp only [md_none]
  · exact (md_unique hp (Nat.xor_lt_two_pow (md_low hp a) (md_low hp b)) (cong_x (md_cong a p) (md_cong b p))).symm
theorem md_cm (c a p : Nat) : md (cm c (md a p)) p = md (cm c a) p := md_eq_of (cong_cm c (md_cong a p))
theorem md_two (a p : Nat) : md (2 * md a p) p = md (2 * a) p := md_eq_of (cong_two (md_cong a p))
theorem md_le_log {a p : Nat} (hp : p ≠ 0) : md a p = 0 ∨ (md a p).log2 < p.log2 := by
  by_cases h : md a p = 0
  · exact Or.inl h
  · exact Or.inr ((Nat.log2_lt h).2 (md_low hp a))
theorem md_eq_zero {a p : Nat} : md a p = 0 ↔ ∃ q, a = cm q p := by
  constructor
  · intro h
    obtain ⟨q, k⟩ := md_cong a p
    rw [h, Nat.zero_xor] at k
    exact ⟨q, k⟩
  · rintro ⟨q, rfl⟩
    rw [md_eq_of (b := 0) ⟨q, by simp⟩, md_zero]
end Go.Proofs.Ytjmgokjflfhohaa.rb
