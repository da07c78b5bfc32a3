/- slices.Clone; rows and hashes beside each other. -/
import Derived.Test.YtagomegeeijfnaaDoorDgL
import Derived.Lib.LazyBuf
namespace Go.Proofs.YtagomegeeijfnaaDoor.dg
open Go.RowKit Mem DM
set_option linter.unusedVariables false
theorem ow_keep1 {w w' : World} {b base n c : Nat} {E : TypeId} {A : Option Addr} {xs : List Value} (h : Ow w base E A n c xs) (hk : Keep1 w w' b) (hne : ∀ k, blk A = some k → k ≠ b) : Ow w' base E A n c xs := by
  refine Mem.Ow.kept (row := some b) h ⟨hk.os, hk.tape, hk.output, hk.size, fun k hlt hn => hk.block k hlt (fun e => hn (by rw [e]))⟩ ?_
  cases hA : blk A with
  | none => exact Or.inl rfl
  | some a => exact Or.inr (fun e => hne a hA (by injection e))
theorem HashAt.belowB {w w' : World} {b B : Nat} {l : List UInt8} (h : HashAt w b l) (hb : Below B w w') (hlt : b < B) : HashAt w' b l := by
  obtain ⟨L, h1, h2, h3⟩ := h.la
  exact ⟨(hb.cell (p := ⟨b, 0, none⟩) hlt).trans h.c0, range_below h.st hb hlt, there_below h.stt hb hlt h.lt, ⟨L, h1, range_below h2 hb hlt, h3⟩, there_below h.lat hb hlt h.lt, (hb.cell (p := ⟨b, 73, none⟩) hlt).trans h.sz, (World.frozen?_of_block (w := w) (hb.block b hlt)).trans h.szf, Nat.lt_of_lt_of_le h.lt hb.size, h.len⟩
theorem Tab.belowB {w w' : World} {B : Nat} (h : Tab w) (hb : Below B w w') (h1 : 0 < B) (h2 : 1 < B) : Tab w' := ⟨range_below h.1 hb h1, range_below h.2 hb h2⟩
theorem Tab.keep {w w' : World} {b : Nat} (h : Tab w) (hk : Keep1 w w' b) (h1 : 0 < b) (h2 : 1 < b) : Tab w' := ⟨range_keep h.1 hk h.pos.1 (by omega), range_keep h.2 hk h.pos.2 (by omega)⟩
/-- a step that changes nothing below B -/
theorem Keep1.belowB {w w1 w2 : World} {b B : Nat} (h : Keep1 w w1 b) (k : Below B w1 w2) (hB : w.heap.size ≤ B) : Keep1 w w2 b :=
  ⟨k.os.trans h.os, k.tape.trans h.tape, k.output.trans h.output, Nat.le_trans h.size k.size, fun i hi hn => (k.block i (by omega)).trans (h.block i hi hn)⟩
theorem clone_any (A : Option Addr) (n c B : Nat) (l : List UInt8) (w : World) (h : Rd w B A n (bv l)) (hB : B ≤ w.heap.size) (hn : n ≤ 140737488351232) :
    Calls Tryd.prog 6 #[.slice A n c] w (Made w l) := by
  have hnil := fun (a : Option Addr) => Lib.run_eql_slice_nil w _ _ a n c 0 0 Tryd.underlying22
  cases A with
  | none =>
    have h0 : l = [] := by
      rcases Nat.eq_zero_or_pos n with h0 | h0
      · exact List.eq_nil_of_length_eq_zero (by rw [← bv_len, h.len, h0])
      · obtain ⟨b, off, e, _⟩ := h.addr h0; cases e
    subst h0
    have Hh := Lib.hid h
    clear h
    go_enter Tryd.func6, Tryd.ntmps6
    go_wp2
    go_ret
    exact ⟨_, _, _, rfl, Ow.nil w _ _, Below.refl _ _⟩
  | some ad =>
    have hb : Below B w (w.alloc (.cells #[] 5)) := (Below.refl _ _).alloc hB _
    have h2 := h.below hb (Nat.le_refl _)
    have ho := Ow.lit w 5 [] (base := w.heap.size) (Nat.le_refl _) (by simp [maxLen])
    go_enter Tryd.func6, Tryd.ntmps6
    go_wp2_with (at_builtin; refine wp_app u8ty rfl (.tmp 5) (.tmp 6) rfl rfl rfl ho h2 (bv_one l) (by simp; omega) (by simp; omega) (by simp) ?_; intro A' N c' w1 ho1 _ hb1 _)
    go_ret
    exact ⟨_, _, _, rfl, by simpa using ho1, (Below.alloc (Below.refl _ _) (Nat.le_refl _) _).trans hb1⟩
end Go.Proofs.YtagomegeeijfnaaDoor.dg
