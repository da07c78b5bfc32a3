/- Mathematics of the great sum: it is linear; what is sealed leaves one and the same register; an error within 32 bits leaves a register that is not nought. -/
import Derived.Test.YtkgfbehlcjjjnaaDoorSumE
namespace Go.Proofs.YtkgfbehlcjjjnaaDoor.CM
open Go.RowKit

def xorl : List UInt8 → List UInt8 → List UInt8 := List.zipWith (· ^^^ ·)
theorem bb_xor (a b : UInt8) : bb (a ^^^ b) = bb a ^^^ bb b := by
  apply BitVec.eq_of_toNat_eq
  unfold bb
  have ha := a.toNat_lt
  have hb := b.toNat_lt
  have hx : a.toNat ^^^ b.toNat < 2 ^ 8 := Nat.xor_lt_two_pow ha hb
  rw [BitVec.toNat_xor, BitVec.toNat_ofNat, BitVec.toNat_ofNat, BitVec.toNat_ofNat, UInt8.toNat_xor, Nat.mod_eq_of_lt (by omega), Nat.mod_eq_of_lt (by omega), Nat.mod_eq_of_lt (by omega)]
theorem byst_xor (c d : BitVec 32) (a b : UInt8) : byst (c ^^^ d) (a ^^^ b) = byst c a ^^^ byst d b := by
  unfold byst
  rw [bb_xor, ← bstN_xor]
  congr 1
  ac_rfl
theorem crcF_xor : ∀ (x y : List UInt8) (c d : BitVec 32), x.length = y.length → crcF (c ^^^ d) (xorl x y) = crcF c x ^^^ crcF d y
  | [], [], c, d, _ => rfl
  | a :: x, b :: y, c, d, h => by
    show crcF (byst (c ^^^ d) (a ^^^ b)) (xorl x y) = crcF (byst c a) x ^^^ crcF (byst d b) y
    rw [byst_xor]
    exact crcF_xor x y _ _ (by simpa using h)
  | [], _ :: _, _, _, h => by simp at h
  | _ :: _, [], _, _, h => by simp at h
theorem xor_eq_zero {a b : BitVec 32} (h : a ^^^ b = 0) : a = b := by
  have h3 : (a ^^^ b) ^^^ b = 0 ^^^ b := by rw [h]
  rw [BitVec.xor_assoc, BitVec.xor_self, BitVec.xor_zero] at h3
  rw [h3]; simp

/-- noughts only step on -/
theorem crcF_zeros : ∀ (k : Nat) (c : BitVec 32), crcF c (List.replicate k 0) = bstN (8 * k) c
  | 0, c => rfl
  | k + 1, c => by
    rw [List.replicate_succ]
    show crcF (byst c 0) (List.replicate k 0) = _
    rw [crcF_zeros k, show 8 * (k + 1) = 8 + 8 * k from by omega, bstN_add]
    congr 1
    unfold byst
    rw [show bb 0 = (0#32 : BitVec 32) from rfl, BitVec.xor_zero]

/-- one step on where the low bit is nought -/
theorem low_byte (c : BitVec 32) (u : UInt8) (h : c.toNat % 256 = u.toNat) : byst c u = c >>> 8 := by
  have hc := c.isLt
  have hq : (c >>> 8).toNat = c.toNat / 256 := by rw [BitVec.toNat_ushiftRight, Nat.shiftRight_eq_div_pow]
  have e : c ^^^ bb u = ((c >>> 8) <<< 4) <<< 4 := by
    have s := split4 c
    apply BitVec.eq_of_getLsbD_eq
    intro i hi
    have hu : (bb u).getLsbD i = (decide (i < 8) && c.getLsbD i) := by
      unfold bb
      rw [BitVec.getLsbD_ofNat, ← h]
      rw [show (256 : Nat) = 2 ^ 8 from rfl, Nat.testBit_mod_two_pow]
      simp [BitVec.getLsbD, hi]
    rw [BitVec.getLsbD_xor, hu, ← BitVec.shiftLeft_add, BitVec.getLsbD_shiftLeft, BitVec.getLsbD_ushiftRight]
    by_cases h8 : i < 8
    · simp [h8]
    · have : 8 + (i - 8) = i := by omega
      simp [h8, hi, this]
  unfold byst
  rw [e, show (8 : Nat) = 4 + 4 from rfl, bstN_add, bst4_high _ (by rw [BitVec.toNat_shiftLeft, Nat.shiftLeft_eq, hq]; omega), bst4_high _ (by rw [hq]; omega)]
open sum in
theorem self_zero (c : BitVec 32) : crcF c (le4 c) = 0 := by
  have hc := c.isLt
  have e8 : (c >>> 8).toNat = c.toNat / 256 := by rw [BitVec.toNat_ushiftRight, Nat.shiftRight_eq_div_pow]
  have e16 : ((c >>> 8) >>> 8).toNat = c.toNat / 65536 := by rw [BitVec.toNat_ushiftRight, Nat.shiftRight_eq_div_pow, e8]; omega
  have e24 : (((c >>> 8) >>> 8) >>> 8).toNat = c.toNat / 16777216 := by rw [BitVec.toNat_ushiftRight, Nat.shiftRight_eq_div_pow, e16]; omega
  have e32 : ((((c >>> 8) >>> 8) >>> 8) >>> 8).toNat = 0 := by rw [BitVec.toNat_ushiftRight, Nat.shiftRight_eq_div_pow, e24]; omega
  show byst (byst (byst (byst c (UInt8.ofNat c.toNat)) (UInt8.ofNat (c.toNat / 256))) (UInt8.ofNat (c.toNat / 65536))) (UInt8.ofNat (c.toNat / 16777216)) = 0
  rw [low_byte c _ (by rw [UInt8.toNat_ofNat']), low_byte (c >>> 8) _ (by rw [UInt8.toNat_ofNat', e8]), low_byte ((c >>> 8) >>> 8) _ (by rw [UInt8.toNat_ofNat', e16]), low_byte (((c >>> 8) >>> 8) >>> 8) _ (by rw [UInt8.toNat_ofNat', e24])]
  exact BitVec.eq_of_toNat_eq e32
theorem ff_byte (n m : Nat) (h : (n + m) % 256 = 255) : UInt8.ofNat n = UInt8.ofNat m ^^^ 255 := by
  apply UInt8.toNat_inj.1
  rw [UInt8.toNat_xor, UInt8.toNat_ofNat', UInt8.toNat_ofNat']
  have h1 : ∀ x, x < 256 → x ^^^ 255 = 255 - x := by decide +kernel
  show n % 2 ^ 8 = (m % 2 ^ 8) ^^^ 255
  rw [h1 _ (by omega)]
  omega
open sum in
theorem le4_not (c : BitVec 32) : le4 (~~~ c) = xorl (le4 c) [255, 255, 255, 255] := by
  have hc := c.isLt
  have hn : (~~~ c).toNat = 4294967295 - c.toNat := by rw [BitVec.toNat_not]
  unfold le4
  rw [hn]
  show _ = [_, _, _, _]
  rw [ff_byte (4294967295 - c.toNat) c.toNat (by omega), ff_byte ((4294967295 - c.toNat) / 256) (c.toNat / 256) (by omega), ff_byte ((4294967295 - c.toNat) / 65536) (c.toNat / 65536) (by omega), ff_byte ((4294967295 - c.toNat) / 16777216) (c.toNat / 16777216) (by omega)]
/-- what every sealed row leaves -/
def rest4 : BitVec 32 := crcF 0 [255, 255, 255, 255]
open sum in
theorem sealed_rest (t : List UInt8) : crcF ones (t ++ le4 (crc t)) = rest4 := by
  rw [crcF_app]
  have h := crcF_xor (le4 (crcF ones t)) [255, 255, 255, 255] (crcF ones t) 0 rfl
  rw [← le4_not, self_zero] at h
  simp only [BitVec.ofNat_eq_ofNat, BitVec.xor_zero, BitVec.zero_xor] at h
  exact h
open sum in
/-- what is not sealed as it should be -/
theorem broken (t' : List UInt8) (d0 d1 d2 d3 : UInt8) (h : crcF ones (t' ++ [d0, d1, d2, d3]) ≠ rest4) : [d0, d1, d2, d3] ≠ le4 (crc t') := fun e => h (by rw [e]; exact sealed_rest t')
/-- one byte is another one -/
theorem one_byte (x y : List UInt8) (a b : UInt8) (hab : a ≠ b) (c : BitVec 32) : crcF c (x ++ a :: y) ≠ crcF c (x ++ b :: y) := by
  intro e
  rw [crcF_app, crcF_app] at e
  have h1 : ∀ (l : List UInt8) (p q : BitVec 32), crcF p l = crcF q l → p = q := by
    intro l
    induction l with
    | nil => intro p q h; exact h
    | cons u l ih =>
      intro p q h
      have := ih _ _ h
      have h2 := bstN_inj 8 _ _ this
      have h3 : (p ^^^ bb u) ^^^ bb u = (q ^^^ bb u) ^^^ bb u := by rw [h2]
      rw [BitVec.xor_assoc, BitVec.xor_assoc, BitVec.xor_self, BitVec.xor_zero, BitVec.xor_zero] at h3
      exact h3
  have h2 := h1 y _ _ e
  have h3 := bstN_inj 8 _ _ h2
  have h4 : crcF c x ^^^ (crcF c x ^^^ bb a) = crcF c x ^^^ (crcF c x ^^^ bb b) := by rw [h3]
  rw [← BitVec.xor_assoc, ← BitVec.xor_assoc, BitVec.xor_self, BitVec.zero_xor, BitVec.zero_xor] at h4
  unfold bb at h4
  have h5 := congrArg BitVec.toNat h4
  have ha := a.toNat_lt
  have hb := b.toNat_lt
  rw [BitVec.toNat_ofNat, BitVec.toNat_ofNat, Nat.mod_eq_of_lt (by omega), Nat.mod_eq_of_lt (by omega)] at h5
  exact hab (UInt8.toNat_inj.1 h5)
/-- three rows of one length -/
theorem crc_three (x y z : List UInt8) (h1 : x.length = y.length) (h2 : y.length = z.length) : crc (xorl (xorl x y) z) = crc x ^^^ crc y ^^^ crc z := by
  unfold crc
  have e1 := crcF_xor x y ones ones h1
  have e2 := crcF_xor (xorl x y) z (ones ^^^ ones) ones (by simp [xorl]; omega)
  rw [e1] at e2
  have e3 : (ones ^^^ ones) ^^^ ones = ones := by decide
  rw [e3] at e2
  rw [e2]
  have n : ∀ a : BitVec 32, ~~~ a = a ^^^ ones := fun a => by rw [BitVec.not_def, BitVec.xor_comm]; rfl
  rw [n, n, n, n]
  have : ones ^^^ ones = 0 := by decide
  calc crcF ones x ^^^ crcF ones y ^^^ crcF ones z ^^^ ones = (crcF ones x ^^^ crcF ones y ^^^ crcF ones z ^^^ ones) ^^^ (ones ^^^ ones) := by rw [this]; simp
    _ = _ := by ac_rfl
theorem xor_other (b : UInt8) (n : Nat) (h0 : 0 < n) (h : n < 256) : b ≠ b ^^^ UInt8.ofNat n := by
  intro e
  have h1 : b ^^^ b = b ^^^ (b ^^^ UInt8.ofNat n) := congrArg (b ^^^ ·) e
  rw [← UInt8.xor_assoc, UInt8.xor_self, UInt8.zero_xor] at h1
  have h2 := congrArg UInt8.toNat h1
  rw [UInt8.toNat_ofNat'] at h2
  have : (0 : UInt8).toNat = 0 := rfl
  omega
theorem u8_xor (b : UInt8) (n : Nat) (h : n < 256) : bits BinOp.xor IntKind.u8 (b.toNat : Int) ((n : Nat) : Int) = ((b ^^^ UInt8.ofNat n).toNat : Int) := by
  have hb := b.toNat_lt
  rw [UInt8.toNat_xor, UInt8.toNat_ofNat', show n % 2 ^ 8 = n from by omega]
  exact u8_xor_nat _ _ (by omega) h
end Go.Proofs.YtkgfbehlcjjjnaaDoor.CM
