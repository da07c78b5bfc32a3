/- Bits turned one behind the other within 32: the register tells. -/
import Derived.Test.YtkgfbehlcjjjnaaDoorBurst
namespace Go.Proofs.YtkgfbehlcjjjnaaDoor.CM
open Go.RowKit

theorem crcF_add : ∀ (y : List UInt8) (u v : BitVec 32), crcF (u ^^^ v) y = crcF u y ^^^ bstN (8 * y.length) v
  | [], u, v => rfl
  | a :: y, u, v => by
    show crcF (byst (u ^^^ v) a) y = crcF (byst u a) y ^^^ _
    have e : byst (u ^^^ v) a = byst u a ^^^ bstN 8 v := by
      unfold byst
      rw [← bstN_xor]
      congr 1
      ac_rfl
    rw [e, crcF_add y, ← bstN_add]
    congr 2
    simp
    omega
theorem bit_byte : ∀ m, m < 8 → bstN 8 (bb (UInt8.ofNat (2 ^ m))) = bstN (8 - m) 1 := by decide +kernel
theorem bit_low : ∀ m, m < 32 → bstN m (1#32 <<< m) = 1 := by decide +kernel
theorem bit_ne : ∀ m, m < 32 → (1#32 <<< m).getLsbD m = true := by decide +kernel
theorem bit_other : ∀ m, m < 32 → ∀ j, j < 32 → m < j → (1#32 <<< m).getLsbD j = false := by decide +kernel

/-- a bit is turned -/
def turn (Z : List UInt8) (k : Nat) : List UInt8 := Z.set (k / 8) ((Z.getD (k / 8) 0) ^^^ UInt8.ofNat (2 ^ (k % 8)))
theorem turn_len (Z : List UInt8) (k : Nat) : (turn Z k).length = Z.length := by simp [turn]
theorem turn_reg (Z : List UInt8) (k : Nat) (hk : k < 8 * Z.length) (c : BitVec 32) : crcF c (turn Z k) = crcF c Z ^^^ bstN (8 * Z.length - k) 1 := by
  have hi : k / 8 < Z.length := by omega
  obtain ⟨b, hb⟩ : ∃ b, b = Z[k / 8] := ⟨_, rfl⟩
  have hg : Z.getD (k / 8) 0 = b := by rw [hb, List.getD_eq_getElem?_getD, List.getElem?_eq_getElem hi]; rfl
  have e1 : Z = Z.take (k / 8) ++ b :: Z.drop (k / 8 + 1) := by rw [hb, ← List.drop_eq_getElem_cons hi, List.take_append_drop]
  have e2 : turn Z k = Z.take (k / 8) ++ (b ^^^ UInt8.ofNat (2 ^ (k % 8))) :: Z.drop (k / 8 + 1) := by
    unfold turn
    rw [hg, List.set_eq_take_append_cons_drop, if_pos hi]
  have e3 : crcF c Z = crcF c (Z.take (k / 8) ++ b :: Z.drop (k / 8 + 1)) := congrArg _ e1
  rw [e2, e3, crcF_app, crcF_app]
  show crcF (byst _ (b ^^^ _)) _ = crcF (byst _ b) _ ^^^ _
  have e4 := byst_xor (crcF c (Z.take (k / 8))) 0 b (UInt8.ofNat (2 ^ (k % 8)))
  simp only [BitVec.ofNat_eq_ofNat, BitVec.xor_zero] at e4
  rw [e4, crcF_add]
  congr 1
  unfold byst
  rw [BitVec.zero_xor, bit_byte _ (by omega), ← bstN_add]
  congr 1
  simp
  omega

/-- what some turns leave: Z after turns of bits M0 .. within the first i, M bits standing from there to the end -/
def Turned (X : List UInt8) (M i : Nat) (Z : List UInt8) : Prop := Z.length = X.length ∧ ∃ A : BitVec 32, (∀ j, i ≤ j → j < 32 → A.getLsbD j = false) ∧ (A = 0 → Z = X) ∧ crcF ones Z = crcF ones X ^^^ bstN M A
theorem Turned.none (X : List UInt8) (M : Nat) : Turned X M 0 X := ⟨rfl, 0, fun _ _ _ => by simp, fun _ => rfl, by rw [bstN_zero]; simp⟩
theorem Turned.skip {X Z : List UInt8} {M i : Nat} (h : Turned X M i Z) : Turned X M (i + 1) Z := by
  obtain ⟨hl, A, h1, h2⟩ := h
  exact ⟨hl, A, fun j hj => h1 j (by omega), h2⟩
theorem Turned.one {X Z : List UInt8} {M i a : Nat} (h : Turned X M i Z) (hi : i < 32) (hk : a + i < 8 * X.length) (hM : M = 8 * X.length - a) : Turned X M (i + 1) (turn Z (a + i)) := by
  obtain ⟨hl, A, h1, h2, h3⟩ := h
  refine ⟨by rw [turn_len, hl], A ^^^ (1#32 <<< i), fun j hj hj2 => ?_, fun h0 => ?_, ?_⟩
  · rw [BitVec.getLsbD_xor, h1 j (by omega) hj2, bit_other i hi j hj2 (by omega)]; rfl
  · have := congrArg (fun v : BitVec 32 => v.getLsbD i) h0
    simp only [BitVec.getLsbD_xor, h1 i (Nat.le_refl _) hi, bit_ne i hi] at this
    simp at this
  · rw [turn_reg Z (a + i) (by rw [hl]; exact hk), h3, bstN_xor, BitVec.xor_assoc]
    congr 2
    rw [hl, show M = i + (M - i) from by omega, bstN_add, bit_low i hi]
    congr 1
    omega
theorem Turned.told {X Z : List UInt8} {M i : Nat} (h : Turned X M i Z) (hr : crcF ones X = rest4) (hne : Z ≠ X) : crcF ones Z ≠ rest4 := by
  obtain ⟨hl, A, h1, h2, h3⟩ := h
  intro e
  rw [e, hr] at h3
  have h4 : rest4 ^^^ rest4 = rest4 ^^^ (rest4 ^^^ bstN M A) := congrArg (rest4 ^^^ ·) h3
  rw [← BitVec.xor_assoc, BitVec.xor_self, BitVec.zero_xor] at h4
  exact hne (h2 (bstN_eq_zero M A h4.symm))
end Go.Proofs.YtkgfbehlcjjjnaaDoor.CM
