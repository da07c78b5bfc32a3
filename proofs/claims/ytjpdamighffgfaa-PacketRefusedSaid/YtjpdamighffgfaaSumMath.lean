/- The plain numbers of layer 1's small sum: words, adding with carries. -/
import Derived.WalkKit
namespace Go.Proofs.Ytjpdamighffgfaa.SM

/-- to add with carries: what is left modulo 65535, but 65535 itself for what is not nothing -/
def fd (s : Nat) : Nat := if s = 0 then 0 else (s - 1) % 65535 + 1
theorem fd_le (s : Nat) : fd s ≤ 65535 := by unfold fd; split <;> omega
theorem fd_small (s : Nat) (h : s ≤ 65535) : fd s = s := by unfold fd; split <;> omega
theorem fd_step (s : Nat) (h : 65535 < s) : fd (s / 65536 + s % 65536) = fd s := by
  unfold fd
  rw [if_neg (by omega), if_neg (by omega)]
  omega
theorem fd_lt (s : Nat) (h : 65535 < s) : s / 65536 + s % 65536 < s := by omega
theorem fd_mod (s : Nat) : fd s % 65535 = s % 65535 := by unfold fd; split <;> omega
theorem fd_zero (s : Nat) : fd s = 0 ↔ s = 0 := by unfold fd; split <;> omega
/-- what comes to a multiple of 65535 is valid -/
theorem fd_valid (s : Nat) (h : s % 65535 = 0) : fd s = 0 ∨ fd s = 65535 := by unfold fd; split <;> omega

/-- a part's words -/
def wl : List UInt8 → List Nat
  | [] => []
  | [a] => [256 * a.toNat]
  | a :: b :: t => (256 * a.toNat + b.toNat) :: wl t
/-- their sum, byte by byte -/
def ws : Bool → List UInt8 → Nat
  | _, [] => 0
  | e, b :: t => (if e then 256 * b.toNat else b.toNat) + ws (!e) t
theorem wl_sum : ∀ l : List UInt8, (wl l).sum = ws true l
  | [] => rfl
  | [a] => by simp [wl, ws]
  | a :: b :: t => by simp [wl, ws, wl_sum t]; omega
theorem wl_two : ∀ (j : Nat) (l : List UInt8) (h : 2 * j + 1 < l.length), wl (l.take (2 * j + 2)) = wl (l.take (2 * j)) ++ [256 * (l[2 * j]).toNat + (l[2 * j + 1]).toNat]
  | _, [], h => by simp at h
  | _, [a], h => by simp at h
  | 0, a :: b :: t, h => by simp [wl]
  | j + 1, a :: b :: t, h => by
    have ih := wl_two j t (by simp at h; omega)
    have e1 : 2 * (j + 1) + 2 = (2 * j + 2) + 1 + 1 := by omega
    have e2 : 2 * (j + 1) = 2 * j + 1 + 1 := by omega
    simp only [e1, List.take_succ_cons, wl, ih]
    simp only [e2, List.take_succ_cons, wl, List.cons_append, List.getElem_cons_succ]
theorem wl_odd : ∀ (j : Nat) (l : List UInt8) (h : l.length = 2 * j + 1), wl l = wl (l.take (2 * j)) ++ [256 * (l[2 * j]).toNat]
  | 0, [a], _ => by simp [wl]
  | j + 1, a :: b :: t, h => by
    have ih := wl_odd j t (by simp at h; omega)
    have e2 : 2 * (j + 1) = 2 * j + 1 + 1 := by omega
    simp only [wl, ih]
    simp only [e2, List.take_succ_cons, wl, List.cons_append, List.getElem_cons_succ]
  | 0, [], h => by simp at h
  | _ + 1, [], h => by simp at h
  | _ + 1, [a], h => by simp at h
  | 0, _ :: _ :: _, h => by simp at h
theorem wl_len : ∀ l : List UInt8, (wl l).length ≤ l.length
  | [] => by simp [wl]
  | [a] => by simp [wl]
  | a :: b :: t => by simp [wl]; have := wl_len t; omega
theorem wl_le : ∀ (l : List UInt8), ∀ x ∈ wl l, x ≤ 65535
  | [], x, h => by simp [wl] at h
  | [a], x, h => by simp [wl] at h; have := a.toNat_lt; omega
  | a :: b :: t, x, h => by
    simp only [wl, List.mem_cons] at h
    rcases h with h | h
    · have := a.toNat_lt; have := b.toNat_lt; omega
    · exact wl_le t x h
theorem sum_le (l : List Nat) (h : ∀ x ∈ l, x ≤ 65535) : l.sum ≤ 65535 * l.length := by
  induction l with
  | nil => simp
  | cons a t ih =>
    have := ih fun x hx => h x (List.mem_cons_of_mem _ hx)
    have := h a (by simp)
    simp only [List.sum_cons, List.length_cons]
    omega
theorem ws_le (l : List UInt8) : ws true l ≤ 65535 * l.length := by
  rw [← wl_sum]
  have := sum_le (wl l) (wl_le l)
  have := wl_len l
  have : 65535 * (wl l).length ≤ 65535 * l.length := Nat.mul_le_mul_left _ this
  omega
theorem ws_two (j : Nat) (l : List UInt8) (h : 2 * j + 1 < l.length) : ws true (l.take (2 * j + 2)) = ws true (l.take (2 * j)) + (256 * (l[2 * j]).toNat + (l[2 * j + 1]).toNat) := by
  rw [← wl_sum, wl_two j l h, List.sum_append, wl_sum]; simp
theorem ws_odd (j : Nat) (l : List UInt8) (h : l.length = 2 * j + 1) : ws true l = ws true (l.take (2 * j)) + 256 * (l[2 * j]).toNat := by
  rw [← wl_sum, wl_odd j l h, List.sum_append, wl_sum]; simp

/-- all parts' words -/
def pl : List (List UInt8) → List Nat
  | [] => []
  | l :: r => wl l ++ pl r
def ps (ls : List (List UInt8)) : Nat := (pl ls).sum
def tot (ls : List (List UInt8)) : Nat := (ls.map List.length).sum
theorem pl_snoc (ls : List (List UInt8)) (l : List UInt8) : pl (ls ++ [l]) = pl ls ++ wl l := by
  induction ls with
  | nil => simp [pl]
  | cons a t ih => simp [pl, ih]
theorem ps_snoc (ls : List (List UInt8)) (l : List UInt8) : ps (ls ++ [l]) = ps ls + ws true l := by
  unfold ps
  rw [pl_snoc, List.sum_append, wl_sum]
theorem ps_one (l : List UInt8) : ps [l] = ws true l := by simp [ps, pl, wl_sum]
theorem tot_snoc (ls : List (List UInt8)) (l : List UInt8) : tot (ls ++ [l]) = tot ls + l.length := by simp [tot]
theorem pl_len (ls : List (List UInt8)) : (pl ls).length ≤ tot ls := by
  induction ls with
  | nil => simp [pl]
  | cons a t ih =>
    have := wl_len a
    simp only [pl, tot, List.length_append, List.map_cons, List.sum_cons] at *
    omega
theorem pl_le (ls : List (List UInt8)) : ∀ x ∈ pl ls, x ≤ 65535 := by
  induction ls with
  | nil => simp [pl]
  | cons a t ih =>
    intro x hx
    simp only [pl, List.mem_append] at hx
    rcases hx with hx | hx
    · exact wl_le a x hx
    · exact ih x hx
theorem ps_le (ls : List (List UInt8)) : ps ls ≤ 65535 * tot ls := by
  have := sum_le (pl ls) (pl_le ls)
  have := Nat.mul_le_mul_left 65535 (pl_len ls)
  unfold ps
  omega
theorem tot_take (ls : List (List UInt8)) (k : Nat) (h : k < ls.length) : tot (ls.take (k + 1)) = tot (ls.take k) + (ls[k]).length := by
  rw [List.take_succ_eq_append_getElem h, tot_snoc]
theorem tot_take_le (ls : List (List UInt8)) (k : Nat) : tot (ls.take k) ≤ tot ls := by
  unfold tot
  conv => rhs; rw [← List.take_append_drop k ls]
  rw [List.map_append, List.sum_append]
  omega
theorem len_le_tot (ls : List (List UInt8)) (k : Nat) (h : k < ls.length) : (ls[k]).length ≤ tot ls := by
  have := tot_take ls k h
  have := tot_take_le ls (k + 1)
  omega

/-- the small sum -/
def inet (ls : List (List UInt8)) : Nat := 65535 - fd (ps ls)

theorem and_word (t : Nat) (h : t < 18446744073709551616) : bits BinOp.and IntKind.u64 (t : Int) 65535 = (t : Int) % 65536 := by
  rw [show (65535 : Int) = ((65535 : Nat) : Int) from rfl, u64_and_nat t 65535 h (by omega)]
  rw [show (65535 : Nat) = 2 ^ 16 - 1 from rfl, Nat.and_two_pow_sub_one_eq_mod]
  simp
theorem or_word (a b : Nat) (ha : a < 256) (hb : b < 256) : bits BinOp.or IntKind.u64 ((a : Int) * 256) (b : Int) = (a : Int) * 256 + (b : Int) := by
  have e : ((a : Int) * 256) = ((2 ^ 8 * a : Nat) : Int) := by simp; omega
  rw [e, u64_or_nat _ _ (by omega) (by omega), ← Nat.two_pow_add_eq_or_of_lt (i := 8) (by omega) a]
  simp
theorem part_bound (ls : List (List UInt8)) (k : Nat) (hk : k < ls.length) (l r : List UInt8) (hl : ls[k] = l) (hr : r.length ≤ l.length) (ht : tot ls ≤ 1099511627776) (S : Nat) (hS : S = ps (ls.take k)) : S + ws true r ≤ 72057594037927936 := by
  have h1 := ps_le (ls.take k)
  have h2 := ws_le r
  have h3 := tot_take ls k hk
  have h4 := tot_take_le ls (k + 1)
  rw [hl] at h3
  omega
theorem ps_take (ls : List (List UInt8)) (k : Nat) (hk : k < ls.length) (l : List UInt8) (hl : ls[k] = l) : ps (ls.take (k + 1)) = ps (ls.take k) + ws true l := by
  rw [List.take_succ_eq_append_getElem hk, ps_snoc, hl]
theorem nat_not (k x : Nat) (h : x < 2 ^ k) : (2 ^ k - 1) ^^^ x = 2 ^ k - 1 - x := by
  have h1 := congrArg BitVec.toNat (BitVec.not_def (x := BitVec.ofNat k x))
  rw [BitVec.toNat_not, BitVec.toNat_xor, BitVec.toNat_allOnes, BitVec.toNat_ofNat, Nat.mod_eq_of_lt h] at h1
  exact h1.symm
theorem not_u16 (x : Nat) (h : x ≤ 65535) : bits BinOp.xor IntKind.u16 IntKind.u16.max (x : Int) = ((65535 - x : Nat) : Int) := by
  rw [show IntKind.u16.max = ((65535 : Nat) : Int) from rfl, u16_xor_nat 65535 x (by omega) (by omega), show (65535 : Nat) = 2 ^ 16 - 1 from rfl, nat_not 16 x (by omega)]
/-- a check sum when a word is another one -/
def upd (s o v : Nat) : Nat := 65535 - fd ((65535 - s) + (65535 - o) + v)
end Go.Proofs.Ytjpdamighffgfaa.SM
