/- Words that are put in the places of others, and what becomes of the small sum. -/
import Derived.Test.YtjpdamighffgfaaSumMath
namespace Go.Proofs.Ytjpdamighffgfaa.SM

/-- the word at a place -/
def wd (l : List UInt8) (j : Nat) : Nat := 256 * (l.getD (2 * j) 0).toNat + (l.getD (2 * j + 1) 0).toNat
/-- another word at it -/
def put2 (l : List UInt8) (j N : Nat) : List UInt8 := (l.set (2 * j) (UInt8.ofNat (N / 256))).set (2 * j + 1) (UInt8.ofNat N)
theorem put2_len (l : List UInt8) (j N : Nat) : (put2 l j N).length = l.length := by simp [put2]
theorem wd_le (l : List UInt8) (j : Nat) : wd l j ≤ 65535 := by
  unfold wd
  have := (l.getD (2 * j) 0).toNat_lt
  have := (l.getD (2 * j + 1) 0).toNat_lt
  omega
theorem put2_cons (a b : UInt8) (t : List UInt8) (j N : Nat) : put2 (a :: b :: t) (j + 1) N = a :: b :: put2 t j N := by
  unfold put2
  rw [show 2 * (j + 1) = 2 * j + 1 + 1 from by omega, show 2 * j + 1 + 1 + 1 = (2 * j + 1) + 1 + 1 from rfl]
  simp [List.set_cons_succ]
theorem wd_cons (a b : UInt8) (t : List UInt8) (j : Nat) : wd (a :: b :: t) (j + 1) = wd t j := by
  unfold wd
  rw [show 2 * (j + 1) = 2 * j + 1 + 1 from by omega]
  simp
theorem wd_zero (a b : UInt8) (t : List UInt8) : wd (a :: b :: t) 0 = 256 * a.toNat + b.toNat := by simp [wd]
theorem ws_put2 : ∀ (j : Nat) (l : List UInt8) (N : Nat), 2 * j + 1 < l.length → N ≤ 65535 → ws true (put2 l j N) + wd l j = ws true l + N
  | _, [], _, h, _ => by simp at h
  | _, [a], _, h, _ => by simp at h
  | 0, a :: b :: t, N, _, hN => by
    rw [wd_zero]
    simp only [put2, Nat.mul_zero, List.set_cons_zero, Nat.zero_add, List.set_cons_succ, ws, UInt8.toNat_ofNat', Bool.not_true, if_true]
    simp
    omega
  | j + 1, a :: b :: t, N, h, hN => by
    have ih := ws_put2 j t N (by simp at h; omega) hN
    rw [put2_cons, wd_cons]
    simp only [ws]
    simp only [Bool.not_true, Bool.not_false]
    omega
theorem wd_put2_same : ∀ (j : Nat) (l : List UInt8) (N : Nat), 2 * j + 1 < l.length → N ≤ 65535 → wd (put2 l j N) j = N
  | _, [], _, h, _ => by simp at h
  | _, [a], _, h, _ => by simp at h
  | 0, a :: b :: t, N, _, hN => by
    simp only [put2, Nat.mul_zero, List.set_cons_zero, Nat.zero_add, List.set_cons_succ, wd_zero, UInt8.toNat_ofNat']
    omega
  | j + 1, a :: b :: t, N, h, hN => by
    rw [put2_cons, wd_cons]
    exact wd_put2_same j t N (by simp at h; omega) hN
theorem wd_put2_other : ∀ (j k : Nat) (l : List UInt8) (N : Nat), k ≠ j → wd (put2 l j N) k = wd l k
  | j, k, l, N, h => by
    unfold wd put2
    simp only [List.getD_eq_getElem?_getD]
    rw [List.getElem?_set_ne (by omega), List.getElem?_set_ne (by omega), List.getElem?_set_ne (by omega), List.getElem?_set_ne (by omega)]
theorem inet_one (l : List UInt8) : inet [l] = 65535 - fd (ws true l) := by unfold inet; rw [ps_one]
/-- a check sum in a word that was nothing: the part is valid -/
theorem holds_valid (l : List UInt8) (j : Nat) (h : 2 * j + 1 < l.length) :
    inet [put2 (put2 l j 0) j (inet [put2 l j 0])] = 0 ∨ inet [put2 (put2 l j 0) j (inet [put2 l j 0])] = 65535 := by
  have hN : inet [put2 l j 0] ≤ 65535 := by unfold inet; omega
  have h1 := ws_put2 j (put2 l j 0) (inet [put2 l j 0]) (by rw [put2_len]; exact h) hN
  rw [wd_put2_same j l 0 h (by omega)] at h1
  rw [inet_one (put2 (put2 l j 0) j (inet [put2 l j 0]))]
  have h2 : ws true (put2 (put2 l j 0) j (inet [put2 l j 0])) % 65535 = 0 := by
    have h3 := inet_one (put2 l j 0)
    have h4 := fd_mod (ws true (put2 l j 0))
    have h5 := fd_le (ws true (put2 l j 0))
    omega
  rcases fd_valid _ h2 with e | e <;> rw [e] <;> omega
/-- two words that change their places -/
def swap2 (l : List UInt8) (p q : Nat) : List UInt8 := put2 (put2 l p (wd l q)) q (wd l p)
theorem swap2_len (l : List UInt8) (p q : Nat) : (swap2 l p q).length = l.length := by simp [swap2, put2_len]
theorem ws_swap2 (l : List UInt8) (p q : Nat) (hp : 2 * p + 1 < l.length) (hq : 2 * q + 1 < l.length) : ws true (swap2 l p q) = ws true l := by
  unfold swap2
  have h1 := ws_put2 p l (wd l q) hp (wd_le l q)
  have h2 := ws_put2 q (put2 l p (wd l q)) (wd l p) (by rw [put2_len]; exact hq) (wd_le l p)
  have h3 : wd (put2 l p (wd l q)) q = wd l q := by
    by_cases e : q = p
    · subst e; exact wd_put2_same q l (wd l q) hp (wd_le l q)
    · exact wd_put2_other p q l _ e
  omega
/-- a valid part of which a word is another one, its check sum updated -/
theorem follows_valid (l : List UInt8) (j v : Nat) (h : 2 * j + 1 < l.length) (hj : 0 < j) (hv : v ≤ 65535) :
    inet [put2 (put2 (put2 l 0 0) j v) 0 (upd (inet [put2 l 0 0]) (wd (put2 l 0 0) j) v)] = 0 ∨ inet [put2 (put2 (put2 l 0 0) j v) 0 (upd (inet [put2 l 0 0]) (wd (put2 l 0 0) j) v)] = 65535 := by
  have hU : upd (inet [put2 l 0 0]) (wd (put2 l 0 0) j) v ≤ 65535 := by unfold upd; omega
  have e0 : wd (put2 l 0 0) 0 = 0 := wd_put2_same 0 l 0 (by omega) (by omega)
  have h1 := ws_put2 j (put2 l 0 0) v (by rw [put2_len]; exact h) hv
  have h2 := ws_put2 0 (put2 (put2 l 0 0) j v) (upd (inet [put2 l 0 0]) (wd (put2 l 0 0) j) v) (by rw [put2_len, put2_len]; omega) hU
  have e1 : wd (put2 (put2 l 0 0) j v) 0 = 0 := by rw [wd_put2_other j 0 _ v (by omega)]; exact e0
  rw [e1] at h2
  rw [inet_one (put2 (put2 (put2 l 0 0) j v) 0 (upd (inet [put2 l 0 0]) (wd (put2 l 0 0) j) v))]
  have h3 := inet_one (put2 l 0 0)
  have h4 := fd_mod (ws true (put2 l 0 0))
  have h5 := fd_le (ws true (put2 l 0 0))
  have h6 := wd_le (put2 l 0 0) j
  have h7 : upd (inet [put2 l 0 0]) (wd (put2 l 0 0) j) v = 65535 - fd ((65535 - inet [put2 l 0 0]) + (65535 - wd (put2 l 0 0) j) + v) := rfl
  have h8 := fd_mod ((65535 - inet [put2 l 0 0]) + (65535 - wd (put2 l 0 0) j) + v)
  have h9 := fd_le ((65535 - inet [put2 l 0 0]) + (65535 - wd (put2 l 0 0) j) + v)
  have h10 : ws true (put2 (put2 (put2 l 0 0) j v) 0 (upd (inet [put2 l 0 0]) (wd (put2 l 0 0) j) v)) % 65535 = 0 := by omega
  rcases fd_valid _ h10 with e | e <;> rw [e] <;> omega
end Go.Proofs.Ytjpdamighffgfaa.SM
