/- Contract of digest's put: four bytes laid over four that are there. Ranges of cells. -/
import Derived.Test.YtbcgnacfhpahkaaDoorDgA
import Derived.Deep.MidRow
namespace Go.Proofs.YtbcgnacfhpahkaaDoor.dg
open Go.RowKit Mem DM
set_option linter.unusedVariables false
theorem setCells_snoc (b : Nat) (v : Value) : ∀ (vs : List Value) (o : Nat) (w : World), w.setCells b o (vs ++ [v]) = (w.setCells b o vs).setCell ⟨b, o + vs.length, none⟩ v
  | [], o, w => rfl
  | u :: vs, o, w => by
    show (w.setCell ⟨b, o, none⟩ u).setCells b (o + 1) (vs ++ [v]) = ((w.setCell ⟨b, o, none⟩ u).setCells b (o + 1) vs).setCell ⟨b, o + (vs.length + 1), none⟩ v
    rw [setCells_snoc b v vs (o + 1) _, show o + 1 + vs.length = o + (vs.length + 1) by omega]
theorem setCells_size (b : Nat) : ∀ (vs : List Value) (o : Nat) (w : World), (w.setCells b o vs).heap.size = w.heap.size
  | [], o, w => rfl
  | u :: vs, o, w => by
    show ((w.setCell ⟨b, o, none⟩ u).setCells b (o + 1) vs).heap.size = _
    rw [setCells_size b vs (o + 1) _, World.size_setCell]
/-- what the world keeps, but for one block -/
structure Keep1 (w w' : World) (b : Nat) : Prop where
  os : w'.os = w.os
  tape : w'.tape = w.tape
  output : w'.output = w.output
  size : w.heap.size ≤ w'.heap.size
  block : ∀ k, k < w.heap.size → k ≠ b → w'.heap[k]? = w.heap[k]?
theorem Keep1.refl (w : World) (b : Nat) : Keep1 w w b := ⟨rfl, rfl, rfl, Nat.le_refl _, fun _ _ _ => rfl⟩
theorem Keep1.trans {w w1 w2 : World} {b : Nat} (h : Keep1 w w1 b) (k : Keep1 w1 w2 b) : Keep1 w w2 b :=
  ⟨k.os.trans h.os, k.tape.trans h.tape, k.output.trans h.output, Nat.le_trans h.size k.size, fun i hi hn => (k.block i (Nat.lt_of_lt_of_le hi h.size) hn).trans (h.block i hi hn)⟩
theorem Keep1.set (w : World) (b o : Nat) (v : Value) : Keep1 w (w.setCell ⟨b, o, none⟩ v) b := ⟨rfl, rfl, rfl, by rw [World.size_setCell]; exact Nat.le_refl _, fun i hi hn => Below.heap_setCell _ _ _ _ hn⟩
theorem Keep1.sets (b : Nat) : ∀ (vs : List Value) (o : Nat) (w : World), Keep1 w (w.setCells b o vs) b
  | [], o, w => Keep1.refl w b
  | u :: vs, o, w => (Keep1.set w b o u).trans (Keep1.sets b vs (o + 1) _)
theorem Keep1.of {w w' : World} {b : Nat} (h : Below w.heap.size w w') : Keep1 w w' b := ⟨h.os, h.tape, h.output, h.size, fun i hi _ => h.block i hi⟩
theorem Keep1.below {B b : Nat} {w0 w w' : World} (h : Below B w0 w) (k : Keep1 w w' b) (hB : B ≤ w.heap.size) (hb : B ≤ b) : Below B w0 w' :=
  h.trans ⟨k.os, k.tape, k.output, k.size, fun i hi => k.block i (by omega) (by omega)⟩
theorem Keep1.cell {w w' : World} {b : Nat} (h : Keep1 w w' b) {a : Addr} (hl : a.block < w.heap.size) (hb : a.block ≠ b) : w'.cell? a = w.cell? a := World.cell?_of_block (w := w) (h.block a.block hl hb)
theorem Keep1.rd {w w' : World} {b B n : Nat} {A : Option Addr} {xs : List Value} (h : Keep1 w w' b) (hr : Rd w B A n xs) (hB : B ≤ w.heap.size) (hne : 0 < n → ∀ a, A = some a → a.block ≠ b) : Rd w' B A n xs := by
  refine ⟨hr.len, fun hn => ?_⟩
  obtain ⟨c, off, rfl, hc, hcell⟩ := hr.addr hn
  refine ⟨c, off, rfl, hc, fun k hk => ?_⟩
  have hcb : c ≠ b := hne hn _ rfl
  rw [h.cell (a := ⟨c, off + k, none⟩) (show c < w.heap.size by omega) hcb]
  exact hcell k hk
theorem there_set {w : World} {b o n : Nat} (h : w.there b o n) (b2 o2 : Nat) (vs : List Value) (ht : w.there b2 o2 vs.length) : (w.setCells b2 o2 vs).there b o n := by
  intro j hj
  obtain ⟨h1, h2⟩ := h j hj
  refine ⟨?_, by rw [World.frozen?_setCells]; exact h2⟩
  by_cases hin : b = b2 ∧ o2 ≤ o + j ∧ o + j < o2 + vs.length
  · obtain ⟨rfl, h3, h4⟩ := hin
    have := World.cell?_setCells_in b vs o2 w (fun i hi => (ht i hi).1) (o + j - o2) (by omega)
    rw [show o2 + (o + j - o2) = o + j by omega] at this
    rw [this]; rfl
  · rw [World.cell?_setCells_out b2 vs o2 w ⟨b, o + j, none⟩ (fun hb _ => by
      have hb' : b = b2 := hb
      show o + j < o2 ∨ o2 + vs.length ≤ o + j
      omega)]
    exact h1
theorem there_sub {w : World} {b o n : Nat} (h : w.there b o n) (i m : Nat) (hm : i + m ≤ n) : w.there b (o + i) m := fun j hj => by
  have := h (i + j) (by omega)
  rw [← Nat.add_assoc] at this
  exact this
theorem put_any (g off n c : Nat) (x : UInt32) (w : World) (ht : w.there g off 4) (hn : 4 ≤ n) :
    Calls Tryd.prog 76 #[.slice (some ⟨g, off, none⟩) n c, wv x] w fun e w' => e = .returned (.tuple #[]) ∧ w' = w.setCells g off (bv (bytes4 x)) := by
  have hx := x.toNat_lt
  obtain ⟨X, hX⟩ : ∃ X, x.toNat = X := ⟨_, rfl⟩
  obtain ⟨L, hL⟩ : ∃ L, L = bytes4 x := ⟨_, rfl⟩
  have hLl : L.length = 4 := by rw [hL]; rfl
  have hLi : ∀ j (h : j < L.length), (L[j]).toNat = X / 256 ^ (3 - j) % 256 := by
    subst hL
    rw [← hX]
    intro j h
    have h4 : j < 4 := h
    match j, h4 with
    | 0, _ => simp [bytes4]
    | 1, _ => simp [bytes4]
    | 2, _ => simp [bytes4]
    | 3, _ => simp [bytes4]
  rw [← hL]
  unfold wv
  rw [hX] at hx ⊢
  have HLI := Lib.hid hLi
  have HT := Lib.hid ht
  have HLL := Lib.hid hLl
  clear hLi ht hL hX hLl
  go_enter Tryd.func76, Tryd.ntmps76
  go_wp2_with fail
  go_loopw [4, 5] (fun _ i wr => ∃ j : Nat, i = .int .i64 j ∧ j ≤ 4 ∧ wr = w.setCells g off (bv (L.take j))) (fun _ i _ => 4 - (intOf i).toNat)
  case atStart => exact ⟨0, rfl, by omega, rfl⟩
  case round =>
    obtain ⟨j, rfl, hj, rfl⟩ := hrel
    by_cases hlt : j < 4
    · have hjl : j < L.length := by rw [HLL.out]; exact hlt
      have hlen : (bv (L.take j)).length = j := by rw [bv_len, List.length_take]; omega
      have hth := there_set HT.out g off (bv (L.take j)) (by rw [hlen]; exact there_sub HT.out 0 j (by omega))
      obtain ⟨hc1, hz1⟩ := hth j hlt
      obtain ⟨u0, hc1⟩ := Option.isSome_iff_exists.1 hc1
      have hs := setCells_snoc g (.int .u8 ((L[j]).toNat : Int)) (bv (L.take j)) off w
      rw [hlen, show bv (L.take j) ++ [Value.int .u8 ((L[j]).toNat : Int)] = bv (L.take (j + 1)) by rw [← List.take_append_getElem hjl, bv_app]; rfl, HLI.out j hjl] at hs
      have HS := Lib.hid hs
      have hk1 : (j : Int) < 4 := by omega
      have hjn : j < n := by omega
      have hji : (j : Int) < (n : Int) := by omega
      clear hs hth hlen
      obtain ⟨wr, hwr⟩ : ∃ wr, w.setCells g off (bv (L.take j)) = wr := ⟨_, rfl⟩
      rw [hwr] at hc1 hz1 HS ⊢
      go_wp2_with fail
      have hval : (X : Int) / 2 ^ (8 * (3 - j)) % 256 = ((X / 256 ^ (3 - j) % 256 : Nat) : Int) := by
        rw [Int.pow_mul, Int.natCast_emod, Int.natCast_ediv, Int.natCast_pow]
        rfl
      refine ⟨⟨j + 1, by go_num, by omega, ?_⟩, by simp [intOf]; omega⟩
      rw [HS.out, hval]
    · obtain rfl : j = 4 := by omega
      rw [List.take_of_length_le (by rw [HLL.out]; omega)]
      obtain ⟨w2, hw2⟩ : ∃ w2, w.setCells g off (bv L) = w2 := ⟨_, rfl⟩
      rw [hw2]
      have HW2 := Lib.hid hw2
      clear hw2
      go_wp2_with fail
      go_end0
      exact ⟨rfl, HW2.out.symm⟩
end Go.Proofs.YtbcgnacfhpahkaaDoor.dg
