/- The plain mathematics of the great sum: a shift register over 32 bits; it is linear, and loses nothing. -/
import Derived.WalkKit
namespace Go.Proofs.YtkgfbehlcjjjnaaDoor.CM

def poly : BitVec 32 := 0xedb88320#32
/-- one step of the register -/
def bst (c : BitVec 32) : BitVec 32 := if c.getLsbD 0 then (c >>> 1) ^^^ poly else c >>> 1
def bstN : Nat → BitVec 32 → BitVec 32
  | 0, c => c
  | n + 1, c => bstN n (bst c)

theorem bst_xor (a b : BitVec 32) : bst (a ^^^ b) = bst a ^^^ bst b := by
  unfold bst
  rw [BitVec.getLsbD_xor, BitVec.ushiftRight_xor_distrib]
  cases a.getLsbD 0 <;> cases b.getLsbD 0 <;> simp
  · rw [BitVec.xor_assoc]
  · rw [BitVec.xor_assoc, BitVec.xor_comm (b >>> 1) poly, ← BitVec.xor_assoc]
  · rw [BitVec.xor_assoc (a >>> 1) poly, BitVec.xor_comm (b >>> 1) poly, ← BitVec.xor_assoc poly poly, BitVec.xor_self, BitVec.zero_xor]
theorem bstN_xor : ∀ (n : Nat) (a b : BitVec 32), bstN n (a ^^^ b) = bstN n a ^^^ bstN n b
  | 0, _, _ => rfl
  | n + 1, a, b => by simp only [bstN, bst_xor, bstN_xor n]
theorem bst_zero : bst 0 = 0 := by decide
theorem bstN_zero : ∀ n, bstN n 0 = 0
  | 0 => rfl
  | n + 1 => by rw [bstN, bst_zero, bstN_zero n]
/-- what comes to nothing was nothing -/
theorem bst_eq_zero (a : BitVec 32) (h : bst a = 0) : a = 0 := by
  unfold bst at h
  by_cases h0 : a.getLsbD 0 = true
  · rw [if_pos h0] at h
    have := congrArg (fun x : BitVec 32 => x.getLsbD 31) h
    simp [poly] at this
  · rw [if_neg h0] at h
    apply BitVec.eq_of_getLsbD_eq
    intro i hi
    cases i with
    | zero => simpa using h0
    | succ i =>
      have := congrArg (fun x : BitVec 32 => x.getLsbD i) h
      simpa [BitVec.getLsbD_ushiftRight, Nat.add_comm] using this
theorem bstN_eq_zero : ∀ (n : Nat) (a : BitVec 32), bstN n a = 0 → a = 0
  | 0, _, h => h
  | n + 1, a, h => bst_eq_zero a (bstN_eq_zero n _ h)
theorem bstN_inj (n : Nat) (a b : BitVec 32) (h : bstN n a = bstN n b) : a = b := by
  have h1 : bstN n (a ^^^ b) = 0 := by rw [bstN_xor, h, BitVec.xor_self]; rfl
  have h2 := bstN_eq_zero n _ h1
  have h3 : (a ^^^ b) ^^^ b = 0 ^^^ b := by rw [h2]
  rw [BitVec.xor_assoc, BitVec.xor_self, BitVec.xor_zero] at h3
  rw [h3]; simp
theorem bstN_add : ∀ (m n : Nat) (a : BitVec 32), bstN (m + n) a = bstN n (bstN m a)
  | 0, n, a => by simp [bstN]
  | m + 1, n, a => by rw [Nat.succ_add, bstN, bstN, bstN_add m n]

/-- a byte -/
def bb (b : UInt8) : BitVec 32 := BitVec.ofNat 32 b.toNat
def byst (c : BitVec 32) (b : UInt8) : BitVec 32 := bstN 8 (c ^^^ bb b)
def crcF : BitVec 32 → List UInt8 → BitVec 32 := List.foldl byst
def ones : BitVec 32 := 0xffffffff#32
/-- the great sum -/
def crc (l : List UInt8) : BitVec 32 := ~~~ (crcF ones l)

theorem crcF_app (c : BitVec 32) (l r : List UInt8) : crcF c (l ++ r) = crcF (crcF c l) r := by simp [crcF, List.foldl_append]
theorem crcF_snoc (c : BitVec 32) (l : List UInt8) (b : UInt8) : crcF c (l ++ [b]) = byst (crcF c l) b := by rw [crcF_app]; rfl

/-- four steps at once: the table -/
def fours : List Nat := [0, 498536548, 997073096, 651767980, 1994146192, 1802195444, 1303535960, 1342533948, 3988292384, 4027552580, 3604390888, 3412177804, 2607071920, 2262029012, 2685067896, 3183342108]
theorem fours_low : ∀ r : Nat, r < 16 → bstN 4 (BitVec.ofNat 32 r) = BitVec.ofNat 32 (fours.getD r 0) := by decide
theorem fours_lt : ∀ r : Nat, r < 16 → fours.getD r 0 < 4294967296 := by decide
theorem bst_high (q : BitVec 32) (h : q.toNat < 2147483648) : bst (q <<< 1) = q := by
  unfold bst
  have h0 : (q <<< 1).getLsbD 0 = false := by simp
  rw [h0]
  simp only [Bool.false_eq_true, if_false]
  apply BitVec.eq_of_toNat_eq
  simp only [BitVec.toNat_ushiftRight, BitVec.toNat_shiftLeft, Nat.shiftLeft_eq, Nat.shiftRight_eq_div_pow]
  omega
theorem bst4_high (q : BitVec 32) (h : q.toNat < 268435456) : bstN 4 (q <<< 4) = q := by
  have e : q <<< 4 = (((q <<< 1) <<< 1) <<< 1) <<< 1 := by simp [← BitVec.shiftLeft_add]
  have t1 : (q <<< 1).toNat = q.toNat * 2 := by rw [BitVec.toNat_shiftLeft, Nat.shiftLeft_eq]; omega
  have t2 : ((q <<< 1) <<< 1).toNat = q.toNat * 4 := by rw [BitVec.toNat_shiftLeft, Nat.shiftLeft_eq, t1]; omega
  have t3 : (((q <<< 1) <<< 1) <<< 1).toNat = q.toNat * 8 := by rw [BitVec.toNat_shiftLeft, Nat.shiftLeft_eq, t2]; omega
  rw [e]
  simp only [bstN]
  rw [bst_high _ (by omega), bst_high _ (by omega), bst_high _ (by omega), bst_high _ (by omega)]
theorem split4 (c : BitVec 32) : c = ((c >>> 4) <<< 4) ^^^ BitVec.ofNat 32 (c.toNat % 16) := by
  apply BitVec.eq_of_toNat_eq
  have hc := c.isLt
  rw [BitVec.toNat_xor, BitVec.toNat_shiftLeft, BitVec.toNat_ushiftRight, BitVec.toNat_ofNat, Nat.shiftLeft_eq, Nat.shiftRight_eq_div_pow]
  rw [Nat.mod_eq_of_lt (show c.toNat / 2 ^ 4 * 2 ^ 4 < 2 ^ 32 by omega), Nat.mod_eq_of_lt (show c.toNat % 16 < 2 ^ 32 by omega)]
  have h := Nat.two_pow_add_eq_or_of_lt (i := 4) (show c.toNat % 16 < 2 ^ 4 by omega) (c.toNat / 2 ^ 4)
  have hx : (c.toNat / 2 ^ 4 * 2 ^ 4) ^^^ (c.toNat % 16) = (c.toNat / 2 ^ 4 * 2 ^ 4) ||| (c.toNat % 16) := by
    apply Nat.eq_of_testBit_eq
    intro i
    rw [Nat.testBit_xor, Nat.testBit_or]
    by_cases hi : i < 4
    · rw [Nat.testBit_mul_two_pow]
      simp [Nat.not_le.2 hi]
    · have : (c.toNat % 16).testBit i = false := Nat.testBit_lt_two_pow (Nat.lt_of_lt_of_le (show c.toNat % 16 < 2 ^ 4 by omega) (Nat.pow_le_pow_right (by omega) (by omega)))
      rw [this]; simp
  rw [hx, Nat.mul_comm, ← h]
  omega
theorem nib (c : BitVec 32) : bstN 4 c = (c >>> 4) ^^^ BitVec.ofNat 32 (fours.getD (c.toNat % 16) 0) := by
  have hq : (c >>> 4).toNat < 268435456 := by rw [BitVec.toNat_ushiftRight, Nat.shiftRight_eq_div_pow]; have := c.isLt; omega
  conv => lhs; rw [split4 c]
  rw [bstN_xor, bst4_high _ hq, fours_low _ (by omega)]

/-- one byte through the table, as the program reckons it -/
theorem crc_step (C : BitVec 32) (b : UInt8) : ∃ d r t e r2 t2 f : Nat,
    bits BinOp.xor IntKind.u32 (C.toNat : Int) (b.toNat : Int) = (d : Int) ∧ d < 4294967296 ∧
    bits BinOp.and IntKind.u32 (d : Int) 15 = (r : Int) ∧ r < 16 ∧ t = fours.getD r 0 ∧ bits BinOp.xor IntKind.u32 ((d : Int) / 16) (t : Int) = (e : Int) ∧ e < 4294967296 ∧
    bits BinOp.and IntKind.u32 (e : Int) 15 = (r2 : Int) ∧ r2 < 16 ∧ t2 = fours.getD r2 0 ∧ bits BinOp.xor IntKind.u32 ((e : Int) / 16) (t2 : Int) = (f : Int) ∧ f < 4294967296 ∧
    f = (byst C b).toNat := by
  have hC := C.isLt
  have hb := b.toNat_lt
  have and15 : ∀ D : BitVec 32, bits BinOp.and IntKind.u32 (D.toNat : Int) 15 = ((D.toNat % 16 : Nat) : Int) := fun D => by
    have hD := D.isLt
    rw [show (15 : Int) = ((15 : Nat) : Int) from rfl, u32_and_nat _ _ (by omega) (by omega), show (15 : Nat) = 2 ^ 4 - 1 from rfl, Nat.and_two_pow_sub_one_eq_mod]
  have nibv : ∀ D : BitVec 32, bits BinOp.xor IntKind.u32 ((D.toNat : Int) / 16) ((fours.getD (D.toNat % 16) 0 : Nat) : Int) = ((bstN 4 D).toNat : Int) := fun D => by
    have hD := D.isLt
    have ht := fours_lt (D.toNat % 16) (by omega)
    rw [show ((D.toNat : Int) / 16) = ((D.toNat / 16 : Nat) : Int) from by simp, u32_xor_nat _ _ (by omega) ht, nib D, BitVec.toNat_xor, BitVec.toNat_ushiftRight, BitVec.toNat_ofNat, Nat.shiftRight_eq_div_pow, Nat.mod_eq_of_lt ht]
  have hx : bits BinOp.xor IntKind.u32 (C.toNat : Int) (b.toNat : Int) = ((C ^^^ bb b).toNat : Int) := by
    rw [u32_xor_nat _ _ (by omega) (by omega), BitVec.toNat_xor]
    unfold bb
    rw [BitVec.toNat_ofNat, Nat.mod_eq_of_lt (by omega)]
  refine ⟨(C ^^^ bb b).toNat, _, _, (bstN 4 (C ^^^ bb b)).toNat, _, _, (bstN 4 (bstN 4 (C ^^^ bb b))).toNat, hx, (C ^^^ bb b).isLt, and15 _, by omega, rfl, nibv _, (bstN 4 (C ^^^ bb b)).isLt, and15 _, by omega, rfl, nibv _, (bstN 4 (bstN 4 (C ^^^ bb b))).isLt, ?_⟩
  unfold byst
  rw [← bstN_add]
theorem not_u32 (C : BitVec 32) : bits BinOp.xor IntKind.u32 IntKind.u32.max (C.toNat : Int) = ((~~~ C).toNat : Int) := by
  have hC := C.isLt
  rw [show IntKind.u32.max = ((4294967295 : Nat) : Int) from rfl, u32_xor_nat _ _ (by omega) (by omega), BitVec.not_def, BitVec.toNat_xor]
  rfl
/-- one step as the document reckons it -/
theorem bit_step (C : BitVec 32) : (C.toNat % 2 = 1 ∧ bits BinOp.xor IntKind.u32 ((C.toNat : Int) / 2) 3988292384 = ((bst C).toNat : Int)) ∨ (C.toNat % 2 = 0 ∧ C.toNat / 2 = (bst C).toNat) := by
  have hC := C.isLt
  have h0 : C.getLsbD 0 = decide (C.toNat % 2 = 1) := by
    rw [BitVec.getLsbD, Nat.testBit_zero]
  unfold bst
  rw [h0]
  by_cases h : C.toNat % 2 = 1
  · left
    refine ⟨h, ?_⟩
    rw [if_pos (by simp [h]), show ((C.toNat : Int) / 2) = ((C.toNat / 2 : Nat) : Int) from by simp, show (3988292384 : Int) = ((3988292384 : Nat) : Int) from rfl, u32_xor_nat _ _ (by omega) (by omega), BitVec.toNat_xor, BitVec.toNat_ushiftRight, Nat.shiftRight_eq_div_pow]
    rfl
  · right
    refine ⟨by omega, ?_⟩
    rw [if_neg (by simp [h]), BitVec.toNat_ushiftRight, Nat.shiftRight_eq_div_pow]
end Go.Proofs.YtkgfbehlcjjjnaaDoor.CM
