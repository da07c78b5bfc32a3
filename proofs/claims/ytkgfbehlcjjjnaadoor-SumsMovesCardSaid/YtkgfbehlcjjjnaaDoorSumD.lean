/- Two bytes written into a row of the call's own; a check sum over one part. -/
import Derived.Test.YtkgfbehlcjjjnaaDoorSumC
namespace Go.Proofs.YtkgfbehlcjjjnaaDoor.sum
open Go.RowKit Mem SM lib CM

theorem two_writes {w : World} {B g n c : Nat} {E : TypeId} {l : List UInt8} (ho : Ow w B E (some ⟨g, 0, none⟩) n c (bv l)) (hB : B ≤ g) (j : Nat) (h : 2 * j + 1 < n) :
    (∃ x, w.cell? ⟨g, 2 * j, none⟩ = some x) ∧ (∃ y, w.cell? ⟨g, 2 * j + 1, none⟩ = some y) ∧ w.frozen? ⟨g, 2 * j, none⟩ = false ∧ w.frozen? ⟨g, 2 * j + 1, none⟩ = false ∧
      ∀ (N : Nat) (V1 V2 : Int), N ≤ 65535 → V1 = ((N / 256 : Nat) : Int) → V2 = ((N % 256 : Nat) : Int) →
        Ow ((w.setCell ⟨g, 2 * j, none⟩ (.int .u8 V1)).setCell ⟨g, 2 * j + 1, none⟩ (.int .u8 V2)) B E (some ⟨g, 0, none⟩) n c (bv (put2 l j N)) ∧
        Below B w ((w.setCell ⟨g, 2 * j, none⟩ (.int .u8 V1)).setCell ⟨g, 2 * j + 1, none⟩ (.int .u8 V2)) := by
  have hl := ho.len
  rw [bv_len] at hl
  have a1 := ho.set (2 * j) (.int .u8 0) (by omega)
  have a2 := ho.set (2 * j + 1) (.int .u8 0) (by omega)
  refine ⟨⟨_, a1.2.2.1.trans (bv_at l (2 * j) (by omega))⟩, ⟨_, a2.2.2.1.trans (bv_at l (2 * j + 1) (by omega))⟩, a1.2.2.2, a2.2.2.2, fun N V1 V2 hN h1 h2 => ?_⟩
  subst h1 h2
  have s1 := ho.set (2 * j) (.int .u8 ((N / 256 : Nat) : Int)) (by omega)
  have s2 := s1.1.set (2 * j + 1) (.int .u8 ((N % 256 : Nat) : Int)) (by omega)
  refine ⟨?_, ((Below.refl _ _).setCell (p := ⟨g, 2 * j, none⟩) hB _).setCell (p := ⟨g, 2 * j + 1, none⟩) hB _⟩
  unfold put2
  rw [bv_set, bv_set, UInt8.toNat_ofNat', UInt8.toNat_ofNat']
  have e : N / 256 % 2 ^ 8 = N / 256 := by omega
  rw [e]
  exact s2.1

/-- Inet of one part, a row of the call's own -/
theorem inet_row {w : World} {B : Nat} {E : TypeId} {A : Option Addr} {n c : Nat} {l : List UInt8} (ho : Ow w B E A n c (bv l)) (hn : n ≤ 65536) (t : TypeId) {z : Nat} (hz : w.heap.size = z) :
    Calls Tryd.prog 16 #[.slice (some ⟨z, 0, none⟩) 1 1] (w.alloc (.cells #[.slice A n c] t)) fun e w' => e = .returned (.int .u16 (inet [l] : Nat)) ∧ Ow w' B E A n c (bv l) ∧ Below z w w' := by
  subst hz
  have hl := ho.len
  rw [bv_len] at hl
  refine (inet_any _ _ _ _ [l] _ (Parts.one ho.rd ho.cap.1 (Nat.le_refl _) t) (by omega) (by simp [tot]; omega)).mono ?_
  rintro e w1 ⟨rfl, q, rfl⟩
  exact ⟨rfl, (ho.alloc _).drewN q, below_drewN ((Below.refl _ _).alloc (Nat.le_refl _) _) q⟩
theorem valid_row {w : World} {B : Nat} {E : TypeId} {A : Option Addr} {n c : Nat} {l : List UInt8} (ho : Ow w B E A n c (bv l)) (hn : n ≤ 65536) (t : TypeId) (hv : inet [l] = 0 ∨ inet [l] = 65535) {z : Nat} (hz : w.heap.size = z) :
    Calls Tryd.prog 18 #[.slice (some ⟨z, 0, none⟩) 1 1] (w.alloc (.cells #[.slice A n c] t)) fun e w' => e = .returned (.bool true) ∧ Below z w w' := by
  subst hz
  have hl := ho.len
  rw [bv_len] at hl
  refine (valid_any _ _ _ _ [l] _ (Parts.one ho.rd ho.cap.1 (Nat.le_refl _) t) (by omega) (by simp [tot]; omega)).mono ?_
  rintro e w1 ⟨rfl, q, rfl⟩
  exact ⟨by rw [decide_eq_true hv], below_drewN ((Below.refl _ _).alloc (Nat.le_refl _) _) q⟩
end Go.Proofs.YtkgfbehlcjjjnaaDoor.sum
