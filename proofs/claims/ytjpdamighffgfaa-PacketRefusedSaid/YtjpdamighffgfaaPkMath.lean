/- Packets as bytes, as the document has them: plain mathematics. -/
import Derived.Test.YtjpdamighffgfaaSumMath2
namespace Go.Proofs.Ytjpdamighffgfaa.PM
open SM
set_option linter.unusedVariables false
structure Pk where
  src : Int
  dst : Int
  sport : Int
  dport : Int
  seq : Int
  ack : Int
  flags : Int
  window : Int
  probe : Int
  origin : Int
  data : List UInt8
deriving DecidableEq
def Pk.none : Pk := ⟨0, 0, 0, 0, 0, 0, 0, 0, 0, 0, []⟩
def okP (p : Pk) : Prop := (1 ≤ p.src ∧ p.src ≤ 4) ∧ (1 ≤ p.dst ∧ p.dst ≤ 4) ∧ p.src ≠ p.dst ∧ (1 ≤ p.sport ∧ p.sport ≤ 65535) ∧ (1 ≤ p.dport ∧ p.dport ≤ 65535) ∧ (0 ≤ p.flags ∧ p.flags ≤ 15) ∧ (0 ≤ p.window ∧ p.window ≤ 65535) ∧
  (0 ≤ p.probe ∧ p.probe ≤ 1099511627776) ∧ (0 ≤ p.origin ∧ p.origin ≤ 65535) ∧ p.data.length ≤ 128
instance (p : Pk) : Decidable (okP p) := by unfold okP; infer_instance
/-- the numbers of 32 bits are such -/
def u32P (p : Pk) : Prop := (0 ≤ p.seq ∧ p.seq < 4294967296) ∧ (0 ≤ p.ack ∧ p.ack < 4294967296)
def chk (p : Pk) : Int := if okP p then 0 else 40
def b8 (n : Int) : UInt8 := UInt8.ofNat (n % 256).toNat
theorem b8_nat (n : Int) : ((b8 n).toNat : Int) = n % 256 := by unfold b8; simp; omega
theorem b8_mod (n : Int) : b8 (n % 256) = b8 n := by unfold b8; simp
/-- a number in so many bytes, the highest one first -/
def bigB (n : Int) : Nat → List UInt8
  | 0 => []
  | k + 1 => bigB (n / 256) k ++ [b8 n]
theorem bigB_len (n : Int) : ∀ k, (bigB n k).length = k
  | 0 => rfl
  | k + 1 => by unfold bigB; rw [List.length_append, bigB_len (n / 256) k]; rfl
theorem bigB_front : ∀ (k : Nat) (n : Int), bigB n (k + 1) = b8 (n / 256 ^ k) :: bigB n k
  | 0, n => by simp [bigB]
  | k + 1, n => by
    have ih := bigB_front k (n / 256)
    have e : n / 256 / 256 ^ k = n / 256 ^ (k + 1) := by
      rw [Int.ediv_ediv_of_nonneg (by omega), Int.pow_succ, Int.mul_comm]
    rw [e] at ih
    show bigB (n / 256) (k + 1) ++ [b8 n] = _
    rw [ih]
    rfl
def numB (l : List UInt8) : Nat := l.foldl (fun n x => 256 * n + x.toNat) 0
theorem numB_snoc (l : List UInt8) (x : UInt8) : numB (l ++ [x]) = 256 * numB l + x.toNat := by unfold numB; rw [List.foldl_append]; rfl
theorem numF_lt : ∀ (l : List UInt8) (a : Nat), l.foldl (fun n x => 256 * n + x.toNat) a < (a + 1) * 256 ^ l.length
  | [], a => by simp
  | x :: l, a => by
    have ih := numF_lt l (256 * a + x.toNat)
    have hx := UInt8.toNat_lt x
    have h2 : (256 * a + x.toNat + 1) * 256 ^ l.length ≤ (256 * (a + 1)) * 256 ^ l.length := Nat.mul_le_mul_right _ (by omega)
    have h3 : (256 * (a + 1)) * 256 ^ l.length = (a + 1) * 256 ^ (l.length + 1) := by rw [Nat.pow_succ, Nat.mul_comm 256, Nat.mul_assoc, Nat.mul_comm 256]
    show l.foldl _ (256 * a + x.toNat) < (a + 1) * 256 ^ (l.length + 1)
    omega
theorem numB_lt (l : List UInt8) : numB l < 256 ^ l.length := by
  have := numF_lt l 0
  unfold numB
  simpa using this
theorem numB_take (l : List UInt8) (k : Nat) (h : k < l.length) : numB (l.take (k + 1)) = 256 * numB (l.take k) + (l[k]).toNat := by
  rw [List.take_succ_eq_append_getElem h, numB_snoc]
theorem num_big : ∀ (k : Nat) (n : Int), 0 ≤ n → n < 256 ^ k → (numB (bigB n k) : Int) = n
  | 0, n, h0, h1 => by
    have : n = 0 := by simp at h1; omega
    subst this; rfl
  | k + 1, n, h0, h1 => by
    unfold bigB
    rw [numB_snoc]
    rw [Int.pow_succ] at h1
    have ih := num_big k (n / 256) (by omega) (by omega)
    have hb := b8_nat n
    omega
theorem num_big2 (n : Int) (h0 : 0 ≤ n) (h1 : n ≤ 65535) : (numB (bigB n 2) : Int) = n := num_big 2 n h0 (by omega)
theorem num_big4 (n : Int) (h0 : 0 ≤ n) (h1 : n < 4294967296) : (numB (bigB n 4) : Int) = n := num_big 4 n h0 (by omega)
theorem num_big8 (n : Int) (h0 : 0 ≤ n) (h1 : n ≤ 1099511627776) : (numB (bigB n 8) : Int) = n := num_big 8 n h0 (by omega)
theorem bigB2 (n : Int) : bigB n 2 = [b8 (n / 256), b8 n] := by simp [bigB]
theorem bigB4 (n : Int) : bigB n 4 = [b8 (n / 256 / 256 / 256), b8 (n / 256 / 256), b8 (n / 256), b8 n] := by simp [bigB]
theorem bigB8 (n : Int) : bigB n 8 = [b8 (n / 256 / 256 / 256 / 256 / 256 / 256 / 256), b8 (n / 256 / 256 / 256 / 256 / 256 / 256), b8 (n / 256 / 256 / 256 / 256 / 256), b8 (n / 256 / 256 / 256 / 256), b8 (n / 256 / 256 / 256), b8 (n / 256 / 256), b8 (n / 256), b8 n] := by simp [bigB]

def probeB (p : Pk) : List UInt8 := if p.probe = 0 then [] else 1 :: 10 :: bigB p.probe 8
def originB (p : Pk) : List UInt8 := if p.origin = 0 then [] else 2 :: 4 :: bigB p.origin 2
def optB (p : Pk) : List UInt8 := probeB p ++ originB p
def frontB (p : Pk) : List UInt8 := [70, b8 p.src, b8 p.dst, b8 p.flags] ++ bigB p.sport 2 ++ bigB p.dport 2 ++ bigB p.seq 4 ++ bigB p.ack 4 ++ bigB p.window 2
def tailB (p : Pk) : List UInt8 := [b8 (optB p).length, 0] ++ optB p ++ p.data
def blankB (p : Pk) : List UInt8 := frontB p ++ [0, 0] ++ tailB p
def sumP (p : Pk) : Nat := inet [blankB p]
def putB (p : Pk) : List UInt8 := frontB p ++ bigB (sumP p) 2 ++ tailB p
theorem frontB_len (p : Pk) : (frontB p).length = 18 := by simp [frontB, bigB_len]
theorem optB_len (p : Pk) : (optB p).length ≤ 14 ∧ (optB p).length % 2 = 0 := by
  unfold optB probeB originB
  split <;> split <;> simp [bigB_len]
theorem tailB_len (p : Pk) : (tailB p).length = 2 + (optB p).length + p.data.length := by simp [tailB]; omega
theorem blankB_len (p : Pk) : (blankB p).length = 22 + (optB p).length + p.data.length := by simp only [blankB, List.length_append, frontB_len, tailB_len, List.length_cons, List.length_nil]; omega
theorem putB_len (p : Pk) : (putB p).length = 22 + (optB p).length + p.data.length := by simp only [putB, List.length_append, frontB_len, tailB_len, bigB_len]; omega
theorem sumP_le (p : Pk) : sumP p ≤ 65535 := by unfold sumP inet; omega

def dataAt (b : List UInt8) : Nat := 22 + (b.getD 20 0).toNat
/-- bytes read as a number of 64 bits with its sign -/
def s64 (n : Nat) : Int := ((n : Int) + 9223372036854775808) % 18446744073709551616 - 9223372036854775808
def cutB (b : List UInt8) (i n : Nat) : List UInt8 := (b.drop i).take n
def headP (b : List UInt8) (probe origin : Int) : Pk :=
  ⟨(b.getD 1 0).toNat, (b.getD 2 0).toNat, numB (cutB b 4 2), numB (cutB b 6 2), numB (cutB b 8 4), numB (cutB b 12 4), (b.getD 3 0).toNat, numB (cutB b 16 2), probe, origin, b.drop (dataAt b)⟩
def opts (b : List UInt8) : List UInt8 := cutB b 22 (dataAt b - 22)
/-- has it the option's head? -/
def hasO (o : List UInt8) (size : Nat) (kind : UInt8) : Bool := decide (size ≤ o.length) && o.getD 0 0 == kind
def probe1 (o : List UInt8) : Int := if hasO o 10 1 then s64 (numB (cutB o 2 8)) else 0
def rest1 (o : List UInt8) : List UInt8 := if hasO o 10 1 then o.drop 10 else o
def origin1 (o : List UInt8) : Int := if hasO o 4 2 then s64 (numB (cutB o 2 2)) else 0
def parse1 (b : List UInt8) : Pk := headP b (probe1 (opts b)) (origin1 (rest1 (opts b)))
def probe2 (o : List UInt8) : Int := if o.length = 10 ∨ o.length = 14 then s64 (numB (cutB o 2 8)) else 0
def origin2 (o : List UInt8) : Int := if o.length = 4 ∨ o.length = 14 then s64 (numB (o.drop (o.length - 2))) else 0
def parse2 (b : List UInt8) : Pk := headP b (probe2 (opts b)) (origin2 (opts b))
def valid (b : List UInt8) : Prop := inet [b] = 0 ∨ inet [b] = 65535
instance (b : List UInt8) : Decidable (valid b) := by unfold valid; infer_instance
def isP (p : Pk) (b : List UInt8) : Prop := okP p ∧ putB p = b
instance (p : Pk) (b : List UInt8) : Decidable (isP p b) := by unfold isP; infer_instance
def errOf (b : List UInt8) : Int := if b.length < dataAt b then 2 else if ¬ valid b then 10 else if 128 < b.length - dataAt b then 4 else if isP (parse1 b) b then 0 else 20
def pkOf (b : List UInt8) : Pk := if errOf b = 0 then parse1 b else Pk.none

-- there and back
theorem s64_small (n : Nat) (h : n ≤ 9223372036854775807) : s64 n = n := by unfold s64; omega
theorem put_split (p : Pk) (s : Int) : frontB p ++ bigB s 2 ++ tailB p =
    70 :: b8 p.src :: b8 p.dst :: b8 p.flags :: (bigB p.sport 2 ++ (bigB p.dport 2 ++ (bigB p.seq 4 ++ (bigB p.ack 4 ++ (bigB p.window 2 ++ (bigB s 2 ++ (b8 (optB p).length :: 0 :: (optB p ++ p.data)))))))) := by
  simp [frontB, tailB]
theorem put_lit (p : Pk) : ∃ a0 a1 c0 c1 d0 d1 d2 d3 e0 e1 e2 e3 f0 f1 g0 g1 : UInt8, bigB p.sport 2 = [a0, a1] ∧ bigB p.dport 2 = [c0, c1] ∧ bigB p.seq 4 = [d0, d1, d2, d3] ∧ bigB p.ack 4 = [e0, e1, e2, e3] ∧ bigB p.window 2 = [f0, f1] ∧ bigB (sumP p) 2 = [g0, g1] ∧
    putB p = 70 :: b8 p.src :: b8 p.dst :: b8 p.flags :: a0 :: a1 :: c0 :: c1 :: d0 :: d1 :: d2 :: d3 :: e0 :: e1 :: e2 :: e3 :: f0 :: f1 :: g0 :: g1 :: b8 (optB p).length :: 0 :: (optB p ++ p.data) := by
  refine ⟨_, _, _, _, _, _, _, _, _, _, _, _, _, _, _, _, bigB2 _, bigB2 _, bigB4 _, bigB4 _, bigB2 _, bigB2 _, ?_⟩
  unfold putB
  rw [put_split, bigB2, bigB2, bigB4, bigB4, bigB2, bigB2]
  rfl
theorem b8_small (n : Int) (h0 : 0 ≤ n) (h1 : n ≤ 255) : ((b8 n).toNat : Int) = n := by rw [b8_nat]; omega
theorem dataAt_put (p : Pk) : dataAt (putB p) = 22 + (optB p).length := by
  obtain ⟨a0, a1, c0, c1, d0, d1, d2, d3, e0, e1, e2, e3, f0, f1, g0, g1, _, _, _, _, _, _, h⟩ := put_lit p
  rw [h]
  have := b8_small ((optB p).length : Int) (by omega) (by have := (optB_len p).1; omega)
  simp [dataAt]
  omega
theorem opts_put (p : Pk) : opts (putB p) = optB p := by
  unfold opts
  rw [dataAt_put]
  obtain ⟨a0, a1, c0, c1, d0, d1, d2, d3, e0, e1, e2, e3, f0, f1, g0, g1, _, _, _, _, _, _, h⟩ := put_lit p
  rw [h]
  simp [cutB]
theorem head_put (p : Pk) (hp : okP p) (hu : u32P p) (x y : Int) : headP (putB p) x y = { p with probe := x, origin := y } := by
  obtain ⟨h1, h2, h3, h4, h5, h6, h7, h8, h9, h10⟩ := hp
  obtain ⟨u1, u2⟩ := hu
  have hd : (putB p).drop (dataAt (putB p)) = p.data := by
    rw [dataAt_put]
    obtain ⟨a0, a1, c0, c1, d0, d1, d2, d3, e0, e1, e2, e3, f0, f1, g0, g1, _, _, _, _, _, _, h⟩ := put_lit p
    rw [h]
    rw [Nat.add_comm]
    simp
  have k1 := b8_small p.src (by omega) (by omega)
  have k2 := b8_small p.dst (by omega) (by omega)
  have k3 := b8_small p.flags (by omega) (by omega)
  have k4 := num_big2 p.sport (by omega) (by omega)
  have k5 := num_big2 p.dport (by omega) (by omega)
  have k6 := num_big4 p.seq (by omega) (by omega)
  have k7 := num_big4 p.ack (by omega) (by omega)
  have k8 := num_big2 p.window (by omega) (by omega)
  unfold headP
  rw [hd]
  obtain ⟨a0, a1, c0, c1, d0, d1, d2, d3, e0, e1, e2, e3, f0, f1, g0, g1, q1, q2, q3, q4, q5, _, h⟩ := put_lit p
  rw [q1] at k4
  rw [q2] at k5
  rw [q3] at k6
  rw [q4] at k7
  rw [q5] at k8
  rw [h]
  simp [cutB, k1, k2, k3, k4, k5, k6, k7, k8]
theorem origin_cut (n : Int) (h0 : 0 ≤ n) (h1 : n ≤ 65535) (r : List UInt8) : s64 (numB (cutB (2 :: 4 :: (bigB n 2 ++ r)) 2 2)) = n := by
  have : cutB (2 :: 4 :: (bigB n 2 ++ r)) 2 2 = bigB n 2 := by rw [bigB2]; rfl
  rw [this, s64_small _ (by have := num_big2 n h0 h1; omega), num_big2 n h0 h1]
theorem probe_cut (n : Int) (h0 : 0 ≤ n) (h1 : n ≤ 1099511627776) (r : List UInt8) : s64 (numB (cutB (1 :: 10 :: (bigB n 8 ++ r)) 2 8)) = n := by
  have : cutB (1 :: 10 :: (bigB n 8 ++ r)) 2 8 = bigB n 8 := by rw [bigB8]; rfl
  rw [this, s64_small _ (by have := num_big8 n h0 h1; omega), num_big8 n h0 h1]
theorem opt_cases (p : Pk) : (p.probe = 0 ∧ p.origin = 0 ∧ optB p = []) ∨ (p.probe ≠ 0 ∧ p.origin = 0 ∧ optB p = 1 :: 10 :: (bigB p.probe 8 ++ [])) ∨ (p.probe = 0 ∧ p.origin ≠ 0 ∧ optB p = 2 :: 4 :: (bigB p.origin 2 ++ [])) ∨
    (p.probe ≠ 0 ∧ p.origin ≠ 0 ∧ optB p = 1 :: 10 :: (bigB p.probe 8 ++ (2 :: 4 :: (bigB p.origin 2 ++ [])))) := by
  unfold optB probeB originB
  by_cases h1 : p.probe = 0 <;> by_cases h2 : p.origin = 0 <;> simp [h1, h2]
theorem parse1_put (p : Pk) (hp : okP p) (hu : u32P p) : parse1 (putB p) = p := by
  unfold parse1
  rw [opts_put, head_put p hp hu]
  obtain ⟨h1, h2, h3, h4, h5, h6, h7, h8, h9, h10⟩ := hp
  have e : probe1 (optB p) = p.probe ∧ origin1 (rest1 (optB p)) = p.origin := by
    rcases opt_cases p with ⟨a, b, e⟩ | ⟨a, b, e⟩ | ⟨a, b, e⟩ | ⟨a, b, e⟩ <;> rw [e]
    · simp [probe1, rest1, origin1, hasO, a, b]
    · have hh : hasO (1 :: 10 :: (bigB p.probe 8 ++ [])) 10 1 = true := by rw [bigB8]; rfl
      have hr : rest1 (1 :: 10 :: (bigB p.probe 8 ++ [])) = [] := by unfold rest1; rw [if_pos hh, bigB8]; rfl
      rw [hr]
      unfold probe1
      rw [if_pos hh, probe_cut _ h8.1 h8.2]
      exact ⟨rfl, by rw [b]; rfl⟩
    · have hh : hasO (2 :: 4 :: (bigB p.origin 2 ++ [])) 10 1 = false := by rw [bigB2]; rfl
      have hk : hasO (2 :: 4 :: (bigB p.origin 2 ++ [])) 4 2 = true := by rw [bigB2]; rfl
      unfold probe1 rest1 origin1
      rw [hh]
      simp only [Bool.false_eq_true, if_false]
      rw [if_pos hk, origin_cut _ h9.1 h9.2]
      exact ⟨a.symm, rfl⟩
    · have hh : hasO (1 :: 10 :: (bigB p.probe 8 ++ (2 :: 4 :: (bigB p.origin 2 ++ [])))) 10 1 = true := by rw [bigB8, bigB2]; rfl
      have hr : rest1 (1 :: 10 :: (bigB p.probe 8 ++ (2 :: 4 :: (bigB p.origin 2 ++ [])))) = 2 :: 4 :: (bigB p.origin 2 ++ []) := by unfold rest1; rw [if_pos hh, bigB8]; rfl
      have hk : hasO (2 :: 4 :: (bigB p.origin 2 ++ [])) 4 2 = true := by rw [bigB2]; rfl
      rw [hr]
      unfold probe1 origin1
      rw [if_pos hh, if_pos hk, origin_cut _ h9.1 h9.2, probe_cut _ h8.1 h8.2]
      exact ⟨rfl, rfl⟩
  rw [e.1, e.2]
theorem parse2_put (p : Pk) (hp : okP p) (hu : u32P p) : parse2 (putB p) = p := by
  unfold parse2
  rw [opts_put, head_put p hp hu]
  obtain ⟨h1, h2, h3, h4, h5, h6, h7, h8, h9, h10⟩ := hp
  have e : probe2 (optB p) = p.probe ∧ origin2 (optB p) = p.origin := by
    have lastO : ∀ l : List UInt8, s64 (numB (((2 :: 4 :: (bigB p.origin 2 ++ [])) : List UInt8).drop 2)) = p.origin := fun _ => by
      have := origin_cut p.origin h9.1 h9.2 []
      rw [bigB2] at this ⊢
      exact this
    rcases opt_cases p with ⟨a, b, e⟩ | ⟨a, b, e⟩ | ⟨a, b, e⟩ | ⟨a, b, e⟩ <;> rw [e] <;> unfold probe2 origin2
    · simp [a, b]
    · rw [if_pos (by simp [bigB_len]), if_neg (by simp [bigB_len]), probe_cut _ h8.1 h8.2]
      exact ⟨rfl, b.symm⟩
    · rw [if_neg (by simp [bigB_len]), if_pos (by simp [bigB_len])]
      refine ⟨a.symm, ?_⟩
      have := lastO []
      rw [bigB2] at this ⊢
      exact this
    · rw [if_pos (by simp [bigB_len]), if_pos (by simp [bigB_len]), probe_cut _ h8.1 h8.2]
      refine ⟨rfl, ?_⟩
      have := lastO []
      rw [bigB2] at this ⊢
      rw [bigB8]
      exact this
  rw [e.1, e.2]
end Go.Proofs.Ytjpdamighffgfaa.PM
