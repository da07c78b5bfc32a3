/- The trinomial is prime: reckoned out. -/
import Derived.Test.YtjmgokjflfhohaaCRbC
namespace Go.Proofs.Ytjmgokjflfhohaa.rb
open Go.RowKit Mem
set_option linter.unusedVariables false
/-- what is left, in steps that the kernel reckons -/
def mdF (p : Nat) : Nat → Nat → Nat
  | 0, a => a
  | n + 1, a => if a < 2 ^ p.log2 then a else mdF p n (a ^^^ p * 2 ^ (a.log2 - p.log2))
theorem mdF_eq {p : Nat} (hp : p ≠ 0) : ∀ (n a : Nat), a < 2 ^ (p.log2 + n) → mdF p n a = md a p
  | 0, a, h => (md_of_low h).symm
  | n + 1, a, h => by
    unfold mdF
    by_cases c : a < 2 ^ p.log2
    · rw [if_pos c, md_of_low c]
    · rw [if_neg c]
      have c0 : a ≠ 0 := by have := Nat.two_pow_pos p.log2; omega
      have st := mod_step hp c
      have e := deg_of c0
      have lg : ¬ a.log2 < p.log2 := by rw [Nat.log2_lt c0]; exact c
      have l1 : 2 ^ a.log2 ≤ p * 2 ^ (a.log2 - p.log2) := by
        have := Nat.mul_le_mul_right (2 ^ (a.log2 - p.log2)) (deg_of hp).1
        rwa [← Nat.pow_add, show p.log2 + (a.log2 - p.log2) = a.log2 by omega] at this
      have lo := top_xx e.1 e.2 l1 st.2.2
      have la : a.log2 < p.log2 + n + 1 := (Nat.log2_lt c0).2 h
      rw [mdF_eq hp n _ (Nat.lt_of_lt_of_le lo (Nat.pow_le_pow_right (by decide) (by omega))), st.2.1]
/-- a product's rounds -/
def mlF (p : Nat) : Nat → Nat → Nat → Nat → Nat
  | 0, _, _, r => r
  | n + 1, a, b, r => if b = 0 then r else mlF p n (mdF p 1 (2 * a)) (b / 2) (if b % 2 = 1 then r ^^^ a else r)
theorem mlF_eq {p : Nat} (hp : p ≠ 0) : ∀ (n a b r : Nat), b < 2 ^ n → a < 2 ^ p.log2 → r < 2 ^ p.log2 → mlF p n a b r = md (r ^^^ cm b a) p
  | 0, a, b, r, hb, ha, hr => by
    have : b = 0 := by simp at hb; exact hb
    subst this
    rw [cm_zero, Nat.xor_zero, md_of_low hr]; rfl
  | n + 1, a, b, r, hb, ha, hr => by
    unfold mlF
    by_cases c : b = 0
    · subst c; rw [if_pos rfl, cm_zero, Nat.xor_zero, md_of_low hr]
    · rw [if_neg c, mdF_eq hp 1 (2 * a) (by rw [Nat.pow_succ]; omega), mlF_eq hp n _ _ _ (by rw [Nat.pow_succ] at hb; omega) (md_low hp _) (by
        split
        · exact Nat.xor_lt_two_pow hr ha
        · exact hr), ml_step]
def gdF : Nat → Nat → Nat → Nat
  | 0, a, _ => a
  | n + 1, a, b => if b = 0 then a else gdF n b (mdF b 64 a)
theorem gdF_eq : ∀ (n a b : Nat), a < 2 ^ 64 → b < 2 ^ 64 → (b = 0 ∨ b.log2 < n) → gdF n a b = gd a b
  | 0, a, b, ha, hb, h => by
    rcases h with h | h
    · subst h; rw [gd_zero]; rfl
    · omega
  | n + 1, a, b, ha, hb, h => by
    unfold gdF
    by_cases c : b = 0
    · subst c; rw [if_pos rfl, gd_zero]
    · rw [if_neg c, mdF_eq c 64 a (Nat.lt_of_lt_of_le ha (Nat.pow_le_pow_right (by decide) (by omega))), gd_step c]
      have := md_less (a := a) c
      apply gdF_eq n _ _ hb (by omega)
      rcases md_le_log (a := a) c with e | e
      · exact Or.inl e
      · right; omega
/-- the test, reckoned -/
def primeG (p : Nat) : Nat → Nat → Bool
  | 0, _ => true
  | n + 1, q => if gdF 64 (mlF p 64 q q 0 ^^^ 2) p = 1 then primeG p n (mlF p 64 q q 0) else false
theorem primeG_eq {p : Nat} (hp : p ≠ 0) (hl : p.log2 ≤ 62) (h2 : 2 < 2 ^ p.log2) : ∀ (n q : Nat), q < 2 ^ p.log2 → primeG p n q = primeF p n q
  | 0, _, _ => rfl
  | n + 1, q, hq => by
    have hq64 : q < 2 ^ 64 := Nat.lt_of_lt_of_le hq (Nat.pow_le_pow_right (by decide) (by omega))
    have hp64 : p < 2 ^ 64 := Nat.lt_of_lt_of_le (deg_of hp).2 (Nat.pow_le_pow_right (by decide) (by omega))
    have e : mlF p 64 q q 0 = ml q q p := by rw [mlF_eq hp 64 q q 0 hq64 hq (Nat.two_pow_pos _), Nat.zero_xor, ml_some (by omega)]
    have lo : ml q q p < 2 ^ p.log2 := by rw [ml_some (by omega)]; exact md_low hp _
    have lx : (ml q q p ^^^ 2) < 2 ^ 64 := Nat.lt_of_lt_of_le (Nat.xor_lt_two_pow lo h2) (Nat.pow_le_pow_right (by decide) (by omega))
    unfold primeG primeF
    rw [e, gdF_eq 64 _ _ lx hp64 (Or.inr (by omega)), primeG_eq hp hl h2 n _ lo]
theorem tri_log : (2147483657 : Nat).log2 = 31 := by decide +kernel
theorem tri_prime : primeB 2147483657 = true := by
  unfold primeB
  have hl : dg 2147483657 = 31 := by rw [dg_pos (by decide), tri_log]; rfl
  rw [if_neg (by rw [hl]; omega), tri_log, ← primeG_eq (by decide) (by rw [tri_log]; decide) (by rw [tri_log]; decide) _ _ (by rw [tri_log]; decide)]
  decide +kernel
theorem tri_good : goodB 2147483657 = true := by
  unfold goodB
  rw [tri_prime, dg_pos (by decide), tri_log]; rfl
#print axioms tri_good
end Go.Proofs.Ytjmgokjflfhohaa.rb
