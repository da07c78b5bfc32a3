/- The test is passed by just what has no parts. -/
import Derived.Test.YtjogiobhgmbboaaRbWhole
namespace Go.Proofs.Ytjogiobhgmbboaa.rb
set_option linter.unusedVariables false
/-- squared so often -/
def fr : Nat → Nat → Nat
  | 0, a => a
  | n + 1, a => fr n (cm a a)
theorem sq_x (a b : Nat) : cm (a ^^^ b) (a ^^^ b) = cm a a ^^^ cm b b := by
  rw [cm_xl, cm_xr, cm_xr, cm_comm b a]
  simp only [x_assoc, x_self_left]
theorem fr_x : ∀ (n a b : Nat), fr n (a ^^^ b) = fr n a ^^^ fr n b
  | 0, a, b => rfl
  | n + 1, a, b => by
    show fr n (cm (a ^^^ b) (a ^^^ b)) = _
    rw [sq_x, fr_x n]; rfl
theorem fr_cm : ∀ (n a b : Nat), fr n (cm a b) = cm (fr n a) (fr n b)
  | 0, a, b => rfl
  | n + 1, a, b => by
    show fr n (cm (cm a b) (cm a b)) = cm (fr n (cm a a)) (fr n (cm b b))
    rw [← fr_cm n]
    congr 1
    rw [cm_assoc, cm_comm b (cm a b), cm_assoc, ← cm_assoc]
theorem fr_zero : ∀ n, fr n 0 = 0
  | 0 => rfl
  | n + 1 => by show fr n (cm 0 0) = 0; rw [cm_zero, fr_zero n]
theorem fr_one : ∀ n, fr n 1 = 1
  | 0 => rfl
  | n + 1 => by show fr n (cm 1 1) = 1; rw [cm_one, fr_one n]
theorem fr_pow : ∀ (n k : Nat), fr n (2 ^ k) = 2 ^ (k * 2 ^ n)
  | 0, k => by rw [Nat.pow_zero, Nat.mul_one]; rfl
  | n + 1, k => by
    show fr n (cm (2 ^ k) (2 ^ k)) = _
    rw [cm_shift, ← Nat.pow_add, fr_pow n]
    congr 1
    rw [Nat.pow_succ, Nat.add_mul, ← Nat.mul_assoc, Nat.mul_two]
theorem fr_two (n : Nat) : fr n 2 = 2 ^ (2 ^ n) := by
  have := fr_pow n 1
  rwa [Nat.pow_one, Nat.one_mul] at this
/-- where x comes round, all comes round -/
theorem fr_all {q m : Nat} (h : cong q (2 ^ (2 ^ m)) 2) : ∀ a, cong q (fr m a) a := by
  apply bin (fun a => cong q (fr m a) a)
  · rw [fr_zero]; exact cong_refl q 0
  · intro a _ ih
    have e : cm 2 (a / 2) = 2 * (a / 2) := by rw [show (2 : Nat) = 2 * 1 from rfl, two_cm, cm_one]
    have h1 : cong q (fr m (2 * (a / 2))) (2 * (a / 2)) := by
      rw [← e, fr_cm, fr_two]
      have e1 := cong_cm (2 ^ (2 ^ m)) ih
      have e2 := cong_cm (a / 2) h
      rw [cm_comm, cm_comm _ 2] at e2
      exact cong_trans e1 e2
    have h2 : cong q (fr m (a % 2)) (a % 2) := by
      rcases Nat.mod_two_eq_zero_or_one a with z | z <;> rw [z]
      · rw [fr_zero]; exact cong_refl q 0
      · rw [fr_one]; exact cong_refl q 1
    have h3 := cong_x h2 h1
    rw [← fr_x, ← split2] at h3
    exact h3
/-- a polynomial's value, its coefficients given from the lowest on -/
def ev : List Nat → Nat → Nat
  | [], _ => 0
  | c :: t, y => c ^^^ cm y (ev t y)
/-- what is left of it behind a root -/
def sd (r : Nat) : List Nat → List Nat
  | [] => []
  | _ :: [] => []
  | _ :: c :: t => ev (c :: t) r :: sd r (c :: t)
theorem sd_ev (r y : Nat) : ∀ (c : Nat) (t : List Nat), ev (c :: t) y ^^^ ev (c :: t) r = cm (y ^^^ r) (ev (sd r (c :: t)) y)
  | c, [] => by
    show (c ^^^ cm y 0) ^^^ (c ^^^ cm r 0) = cm (y ^^^ r) 0
    rw [cm_zero_r, cm_zero_r, cm_zero_r, Nat.xor_self]
  | c, d :: t => by
    have ih := sd_ev r y d t
    show (c ^^^ cm y (ev (d :: t) y)) ^^^ (c ^^^ cm r (ev (d :: t) r)) = cm (y ^^^ r) (ev (d :: t) r ^^^ cm y (ev (sd r (d :: t)) y))
    generalize ev (d :: t) y = T at *
    generalize ev (d :: t) r = R at *
    generalize ev (sd r (d :: t)) y = Q at *
    have hT : T = R ^^^ cm (y ^^^ r) Q := by rw [← ih, x_comm T R, x_self_left]
    rw [x_assoc, x_left (cm y T), x_self_left, cm_xr, ← cm_assoc, cm_comm (y ^^^ r) y, cm_assoc, hT, cm_xr, cm_xl]
    simp only [x_assoc]
    rw [cm_xl y r R, x_assoc (cm y R) (cm r R), x_comm (cm r R)]
theorem sd_last (r : Nat) : ∀ (t : List Nat), t ≠ [] → ∃ t', sd r (t ++ [1]) = t' ++ [1] ∧ t'.length + 1 = t.length
  | [], h => absurd rfl h
  | [c], _ => ⟨[], by show ev [1] r :: sd r [1] = [1]; show [1 ^^^ cm r 0] ++ [] = [1]; rw [cm_zero_r]; rfl, rfl⟩
  | c :: d :: t, _ => by
    obtain ⟨t', e, hl⟩ := sd_last r (d :: t) (by simp)
    refine ⟨ev (d :: t ++ [1]) r :: t', ?_, ?_⟩
    · show ev (d :: t ++ [1]) r :: sd r (d :: t ++ [1]) = _
      rw [e]; rfl
    · rw [List.length_cons, hl]; rfl
/-- no more roots than its degree -/
theorem roots {q : Nat} (hq : Irr q) : ∀ (N : Nat) (t : List Nat), t.length = N → ∀ R : List Nat, R.Nodup → (∀ r ∈ R, r < 2 ^ q.log2 ∧ dv q (ev (t ++ [1]) r)) → R.length ≤ N
  | 0, t, ht, R, hn, hR => by
    have : t = [] := List.eq_nil_of_length_eq_zero ht
    subst this
    cases R with
    | nil => exact Nat.le_refl _
    | cons r R =>
      exfalso
      have h := (hR r (List.mem_cons_self ..)).2
      have h1 : md (1 ^^^ cm r 0) q = 0 := dv_md.1 h
      rw [cm_zero_r, Nat.xor_zero, md_of_low (show (1 : Nat) < 2 ^ q.log2 from Nat.one_lt_two_pow (by have := hq.1; omega))] at h1
      cases h1
  | N + 1, t, ht, R, hn, hR => by
    cases R with
    | nil => exact Nat.zero_le _
    | cons r R =>
      have hne : t ≠ [] := by intro e; rw [e] at ht; cases ht
      obtain ⟨t', e, hl⟩ := sd_last r t hne
      obtain ⟨c, u, hcu⟩ : ∃ c u, t = c :: u := by
        cases t with
        | nil => exact absurd rfl hne
        | cons c u => exact ⟨c, u, rfl⟩
      have hn2 := List.nodup_cons.1 hn
      have hr := hR r (List.mem_cons_self ..)
      have := roots hq N t' (by omega) R hn2.2 (fun s hs => by
        have h1 := hR s (List.mem_cons_of_mem _ hs)
        refine ⟨h1.1, ?_⟩
        have h2 := sd_ev r s c (u ++ [1])
        rw [show c :: (u ++ [1]) = t ++ [1] by rw [hcu]; rfl, e] at h2
        have h3 : dv q (cm (s ^^^ r) (ev (t' ++ [1]) s)) := by rw [← h2]; exact dv_x h1.2 hr.2
        rcases euclid hq h3 with k | k
        · exfalso
          have h4 := dv_md.1 k
          rw [md_of_low (Nat.xor_lt_two_pow h1.1 hr.1)] at h4
          exact hn2.1 (by rw [← x_eq_zero h4]; exact hs)
        · exact k)
      rw [List.length_cons]; omega
/-- powers -/
def pw (y : Nat) : Nat → Nat
  | 0 => 1
  | n + 1 => cm y (pw y n)
theorem pw_add (y a : Nat) : ∀ b, pw y (a + b) = cm (pw y a) (pw y b)
  | 0 => by show pw y a = cm (pw y a) 1; rw [cm_one_r]
  | b + 1 => by
    show cm y (pw y (a + b)) = cm (pw y a) (cm y (pw y b))
    rw [pw_add y a b, ← cm_assoc, ← cm_assoc, cm_comm y]
theorem ev_pw (y : Nat) : ∀ k, ev (List.replicate k 0 ++ [1]) y = pw y k
  | 0 => by show 1 ^^^ cm y 0 = 1; rw [cm_zero_r, Nat.xor_zero]
  | k + 1 => by
    rw [List.replicate_succ, List.cons_append]
    show 0 ^^^ cm y (ev (List.replicate k 0 ++ [1]) y) = cm y (pw y k)
    rw [ev_pw y k, Nat.zero_xor]
theorem fr_pw : ∀ (n y : Nat), fr n y = pw y (2 ^ n)
  | 0, y => by show y = cm y 1; rw [cm_one_r]
  | n + 1, y => by
    show fr n (cm y y) = _
    rw [fr_cm, fr_pw n y, ← pw_add, Nat.pow_succ, Nat.mul_two]
/-- who is there again behind m squares has a degree of at most m -/
theorem deg_round {q m : Nat} (hq : Irr q) (hm : 1 ≤ m) (h : cong q (2 ^ (2 ^ m)) 2) : q.log2 ≤ m := by
  have h2 : 2 ≤ 2 ^ m := Nat.le_trans (by decide) (Nat.pow_le_pow_right (n := 2) (by decide) hm)
  have hr := roots hq (2 ^ m) (0 :: 1 :: List.replicate (2 ^ m - 2) 0) (by rw [List.length_cons, List.length_cons, List.length_replicate]; omega) (List.range (2 ^ q.log2)) List.nodup_range (fun r hr => by
    refine ⟨List.mem_range.1 hr, ?_⟩
    show dv q (0 ^^^ cm r (1 ^^^ cm r (ev (List.replicate (2 ^ m - 2) 0 ++ [1]) r)))
    rw [ev_pw, Nat.zero_xor, cm_xr, cm_one_r]
    have e : cm r (cm r (pw r (2 ^ m - 2))) = fr m r := by
      rw [fr_pw]
      show pw r (2 ^ m - 2 + 1 + 1) = _
      rw [show 2 ^ m - 2 + 1 + 1 = 2 ^ m by omega]
    rw [e, x_comm]
    exact fr_all h r)
  rw [List.length_range] at hr
  apply Nat.le_of_not_lt
  intro hlt
  have := Nat.pow_lt_pow_right (a := 2) (by decide) hlt
  omega
/-- the test's rounds, all passed -/
theorem primeF_true (p : Nat) : ∀ (n q m : Nat), q = sq p m → (∀ i, i < n → gd (sq p (m + i + 1) ^^^ 2) p = 1) → primeF p n q = true
  | 0, _, _, _, _ => rfl
  | n + 1, q, m, h, hF => by
    have hq : ml q q p = sq p (m + 1) := by rw [h]; rfl
    have h0 := hF 0 (by omega)
    rw [Nat.add_zero, ← hq] at h0
    unfold primeF
    rw [if_pos h0]
    exact primeF_true p n _ (m + 1) hq (fun i hi => by
      have := hF (i + 1) (by omega)
      rwa [show m + (i + 1) + 1 = m + 1 + i + 1 by omega] at this)
/-- the document's answer -/
theorem prime_iff {p : Nat} (h1 : 1 ≤ p.log2) (h31 : p.log2 ≤ 31) : primeB p = true ↔ ∀ d, 2 ≤ d → d < 2 ^ (p.log2 / 2 + 1) → md p d ≠ 0 := by
  have p0 : p ≠ 0 := by intro e; rw [e] at h1; simp at h1
  constructor
  · intro h d h2 hd e
    have hi := prime_irr h
    obtain ⟨q, hq⟩ := md_eq_zero.1 e
    have d0 : d ≠ 0 := by omega
    have q0 : q ≠ 0 := by intro z; rw [z, cm_zero] at hq; exact p0 hq
    have hl := log_cm q0 d0
    rw [← hq] at hl
    have hd1 : 1 ≤ d.log2 := by
      apply Nat.le_of_not_lt
      intro z
      have := log_one d0 (by omega)
      omega
    have hd2 : d.log2 < p.log2 / 2 + 1 := (Nat.log2_lt d0).2 hd
    rcases hi.2 q d hq with z | z <;> omega
  · intro h
    unfold primeB
    rw [if_neg (by rw [dg_pos p0]; omega)]
    refine primeF_true p _ 2 0 rfl (fun i hi => ?_)
    apply Classical.byContradiction
    intro hg
    rw [Nat.zero_add] at hg
    obtain ⟨s, hs⟩ := gd_right (sq p (i + 1) ^^^ 2) p
    have hgp : dv (gd (sq p (i + 1) ^^^ 2) p) p := ⟨s, hs⟩
    have hgs : dv (gd (sq p (i + 1) ^^^ 2) p) (sq p (i + 1) ^^^ 2) := gd_left _ _
    have g0 := (log_dv p0 hgp).1
    have g1 : 1 ≤ (gd (sq p (i + 1) ^^^ 2) p).log2 := by
      apply Nat.le_of_not_lt
      intro z
      exact hg (log_one g0 (by omega))
    generalize gd (sq p (i + 1) ^^^ 2) p = g at *
    obtain ⟨q, hq, hqg, _⟩ := least_part (p := g) (k := g.log2) g0 (g + 1) g (by omega) (dv_refl g) g1 (Nat.le_refl _)
    have hqp := dv_trans hqg hgp
    have k1 : cong q (sq p (i + 1)) 2 := dv_trans hqg hgs
    have k2 := cong_dv hqp (sq_pow (p := p) (by omega) (i + 1))
    have k3 := deg_round hq (by omega) (cong_trans (cong_symm k2) k1)
    have q0 := irr_ne hq
    have hq1 := hq.1
    refine h q ?_ ?_ (dv_md.1 hqp)
    · have := (deg_of q0).1
      have := Nat.pow_le_pow_right (n := 2) (by decide) hq1
      omega
    · have := (deg_of q0).2
      have := Nat.pow_le_pow_right (n := 2) (by decide) (show q.log2 + 1 ≤ p.log2 / 2 + 1 by omega)
      omega
end Go.Proofs.Ytjogiobhgmbboaa.rb
