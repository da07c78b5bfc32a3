/- A table's cells; what is reckoned once. -/
import Derived.Test.YtjmgokjflfhohaaCRbE
namespace Go.Proofs.Ytjmgokjflfhohaa.rb
open Go.RowKit Mem
set_option linter.unusedVariables false
variable {w w' : World} {b p : Nat} {d s : Int} {A F : Nat → Nat}
/-- a table: its polynomial, whether it was reckoned, its lock, what is left of bytes -/
structure TabB (w : World) (b p : Nat) (d s : Int) (A F : Nat → Nat) : Prop where
  c0 : w.cell? ⟨b, 0, none⟩ = some (.int .u64 (p : Nat))
  c1 : w.cell? ⟨b, 1, none⟩ = some (.int .u32 d)
  c2 : w.cell? ⟨b, 2, none⟩ = some (.int .i32 s)
  ab : ∀ i, i < 256 → w.cell? ⟨b, 4 + i, none⟩ = some (.int .u64 (A i : Nat))
  fi : ∀ i, i < 256 → w.cell? ⟨b, 260 + i, none⟩ = some (.int .u64 (F i : Nat))
  fz : ∀ o, w.frozen? ⟨b, o, none⟩ = false
def upd (A : Nat → Nat) (i x : Nat) : Nat → Nat := fun j => if j = i then x else A j
theorem frozen_set (w : World) (a c : Addr) (v : Value) : (w.setCell a v).frozen? c = w.frozen? c := by simp
theorem ne_off {b o q : Nat} (h : o ≠ q) : (⟨b, o, none⟩ : Addr) ≠ ⟨b, q, none⟩ := fun e => h (by injection e)
theorem TabB.setA (h : TabB w b p d s A F) (i x : Nat) (hi : i < 256) : TabB (w.setCell ⟨b, 4 + i, none⟩ (.int .u64 (x : Nat))) b p d s (upd A i x) F := by
  refine ⟨?_, ?_, ?_, ?_, ?_, fun o => by rw [frozen_set]; exact h.fz o⟩
  · rw [World.cell?_setCell_other _ _ _ _ (ne_off (by omega))]; exact h.c0
  · rw [World.cell?_setCell_other _ _ _ _ (ne_off (by omega))]; exact h.c1
  · rw [World.cell?_setCell_other _ _ _ _ (ne_off (by omega))]; exact h.c2
  · intro j hj
    unfold upd
    by_cases e : j = i
    · subst e; rw [if_pos rfl]; exact World.cell?_setCell_same _ _ _ (h.ab j hj)
    · rw [if_neg e, World.cell?_setCell_other _ _ _ _ (ne_off (by omega))]; exact h.ab j hj
  · intro j hj
    rw [World.cell?_setCell_other _ _ _ _ (ne_off (by omega))]; exact h.fi j hj
theorem TabB.setF (h : TabB w b p d s A F) (i x : Nat) (hi : i < 256) : TabB (w.setCell ⟨b, 260 + i, none⟩ (.int .u64 (x : Nat))) b p d s A (upd F i x) := by
  refine ⟨?_, ?_, ?_, ?_, ?_, fun o => by rw [frozen_set]; exact h.fz o⟩
  · rw [World.cell?_setCell_other _ _ _ _ (ne_off (by omega))]; exact h.c0
  · rw [World.cell?_setCell_other _ _ _ _ (ne_off (by omega))]; exact h.c1
  · rw [World.cell?_setCell_other _ _ _ _ (ne_off (by omega))]; exact h.c2
  · intro j hj
    rw [World.cell?_setCell_other _ _ _ _ (ne_off (by omega))]; exact h.ab j hj
  · intro j hj
    unfold upd
    by_cases e : j = i
    · subst e; rw [if_pos rfl]; exact World.cell?_setCell_same _ _ _ (h.fi j hj)
    · rw [if_neg e, World.cell?_setCell_other _ _ _ _ (ne_off (by omega))]; exact h.fi j hj
theorem TabB.setD (h : TabB w b p d s A F) (y : Int) : TabB (w.setCell ⟨b, 1, none⟩ (.int .u32 y)) b p y s A F := by
  refine ⟨?_, World.cell?_setCell_same _ _ _ h.c1, ?_, ?_, ?_, fun o => by rw [frozen_set]; exact h.fz o⟩
  · rw [World.cell?_setCell_other _ _ _ _ (ne_off (by omega))]; exact h.c0
  · rw [World.cell?_setCell_other _ _ _ _ (ne_off (by omega))]; exact h.c2
  · intro j hj; rw [World.cell?_setCell_other _ _ _ _ (ne_off (by omega))]; exact h.ab j hj
  · intro j hj; rw [World.cell?_setCell_other _ _ _ _ (ne_off (by omega))]; exact h.fi j hj
theorem TabB.setS (h : TabB w b p d s A F) (y : Int) : TabB (w.setCell ⟨b, 2, none⟩ (.int .i32 y)) b p d y A F := by
  refine ⟨?_, ?_, World.cell?_setCell_same _ _ _ h.c2, ?_, ?_, fun o => by rw [frozen_set]; exact h.fz o⟩
  · rw [World.cell?_setCell_other _ _ _ _ (ne_off (by omega))]; exact h.c0
  · rw [World.cell?_setCell_other _ _ _ _ (ne_off (by omega))]; exact h.c1
  · intro j hj; rw [World.cell?_setCell_other _ _ _ _ (ne_off (by omega))]; exact h.ab j hj
  · intro j hj; rw [World.cell?_setCell_other _ _ _ _ (ne_off (by omega))]; exact h.fi j hj
theorem TabB.drew (h : TabB w b p d s A F) : TabB w.drew b p d s A F := ⟨h.c0, h.c1, h.c2, h.ab, h.fi, h.fz⟩
theorem TabB.drewN (h : TabB w b p d s A F) (n : Nat) : TabB (w.drewN n) b p d s A F := ⟨h.c0, h.c1, h.c2, h.ab, h.fi, h.fz⟩
theorem TabB.lt (h : TabB w b p d s A F) : b < w.heap.size := cell_lt h.c0
theorem TabB.alloc (h : TabB w b p d s A F) (o : Obj) : TabB (w.alloc o) b p d s A F := by
  have hb := h.lt
  refine ⟨?_, ?_, ?_, ?_, ?_, ?_⟩
  · rw [World.cell?_alloc_past _ _ _ hb]; exact h.c0
  · rw [World.cell?_alloc_past _ _ _ hb]; exact h.c1
  · rw [World.cell?_alloc_past _ _ _ hb]; exact h.c2
  · intro j hj; rw [World.cell?_alloc_past _ _ _ hb]; exact h.ab j hj
  · intro j hj; rw [World.cell?_alloc_past _ _ _ hb]; exact h.fi j hj
  · intro j; rw [World.frozen?_alloc_past _ _ _ hb]; exact h.fz j
/-- a byte's rests: above the fingerprint, and first of the window -/
def aboveV (p : Nat) : Nat := md 2147483648 p
def firstV (p : Nat) : Nat → Nat
  | 0 => 1
  | n + 1 => ml (firstV p n) 256 p
/-- what the world keeps but for one block -/
def Grown (b : Nat) (w w' : World) : Prop := w.grownBy w' (some b)
theorem Grown.refl (b : Nat) (w : World) : Grown b w w := ⟨rfl, rfl, rfl, Nat.le_refl _, fun _ _ _ => rfl⟩
theorem Grown.drew (h : Grown b w w') : Grown b w w'.drew := ⟨h.os, h.tape, h.output, h.size, h.block⟩
theorem Grown.drewN (h : Grown b w w') (n : Nat) : Grown b w (w'.drewN n) := ⟨h.os, h.tape, h.output, h.size, h.block⟩
theorem Grown.set (h : Grown b w w') (o : Nat) (v : Value) : Grown b w (w'.setCell ⟨b, o, none⟩ v) := by
  refine ⟨h.os, h.tape, h.output, by rw [World.size_setCell]; exact h.size, ?_⟩
  intro k hk hne
  rw [Below.heap_setCell _ _ _ _ (fun e => hne (by rw [e]))]
  exact h.block k hk hne
theorem Grown.cell (h : Grown b w w') {a : Addr} (hb : a.block ≠ b) (hl : a.block < w.heap.size) : w'.cell? a = w.cell? a :=
  h.cell_far a hl (fun e => hb (by injection e))
theorem Grown.alloc (h : Grown b w w') (o : Obj) : Grown b w (w'.alloc o) := h.trans (World.grownBy_alloc w' o _)
theorem Grown.trans {w1 : World} (h : Grown b w w') (k : Grown b w' w1) : Grown b w w1 := World.grownBy.trans h k
theorem md_bnd {a p : Nat} (ha : a < 18446744073709551616) (hp : p < 18446744073709551616) : md a p < 18446744073709551616 := by
  by_cases z : p = 0
  · subst z; rw [md_none]; exact ha
  · exact Nat.lt_trans (Nat.lt_of_lt_of_le (md_low z a) (deg_of z).1) hp
theorem upd_next (g A : Nat → Nat) (k : Nat) : upd (fun i => if i < k then g i else A i) k (g k) = fun i => if i < k + 1 then g i else A i := by
  funext i
  unfold upd
  by_cases h : i = k
  · subst h; simp
  · by_cases c : i < k
    · have : i < k + 1 := by omega
      simp [h, c, this]
    · have : ¬ i < k + 1 := by omega
      simp [h, c, this]
theorem TabB.same {A' F' : Nat → Nat} (h : TabB w b p d s A F) (hA : ∀ i, i < 256 → A i = A' i) (hF : ∀ i, i < 256 → F i = F' i) : TabB w b p d s A' F' :=
  ⟨h.c0, h.c1, h.c2, fun i hi => by rw [← hA i hi]; exact h.ab i hi, fun i hi => by rw [← hF i hi]; exact h.fi i hi, h.fz⟩
set_option maxRecDepth 100000 in
theorem reckon_in (A F : Nat → Nat) (b p bp br : Nat) (w : World) (hp : p < 18446744073709551616) (h1 : w.cell? ⟨bp, 0, none⟩ = some (.int .u64 (p : Nat))) (h2 : w.cell? ⟨br, 0, none⟩ = some (.pointer (some ⟨b, 1, none⟩)))
    (n1 : bp ≠ b) (n2 : br ≠ b) (ht : TabB w b p 0 1 A F) :
    Calls Try.prog 45 #[.pointer (some ⟨bp, 0, none⟩), .pointer (some ⟨br, 0, none⟩)] w fun e w' => e = .returned (.tuple #[]) ∧ TabB w' b p 0 1 (fun i => ml i (aboveV p) p) (fun i => ml i (firstV p 15) p) ∧ Grown b w w' := by
  go_enter Try.func45, Try.ntmps45
  go_wp2_with (first | (go_at_call 46; refine (mod_at 2147483648 p _ rfl rfl (by omega) hp).mono ?_; rintro e w' ⟨rfl, rfl⟩))
  go_loop [3, 7, 8, 9, 10, 11, 12] (fun v3 v7 _ _ _ _ _ => ∃ (f k : Nat), v3 = .int .u64 (f : Nat) ∧ v7 = .int .i64 (k : Nat) ∧ k ≤ 15 ∧ Hid (f = firstV p k) ∧ f < 18446744073709551616) (fun _ v7 _ _ _ _ _ => 15 - (intOf v7).toNat)
  case atStart => exact ⟨1, 0, rfl, rfl, by omega, Lib.hid rfl, by omega⟩
  case round =>
    obtain ⟨f, k, rfl, rfl, hk, HF, hf⟩ := hrel
    by_cases e : k < 15
    · have hb := Lib.hid (ml_bound (a := f) (b := 256) hp)
      go_wp2_with (go_at_call 41; refine (mul_any f 256 p _ hf (by omega) hp).mono ?_; rintro e w' ⟨rfl, rfl⟩)
      go_round
      case rel => exact ⟨_, k + 1, rfl, by go_num, by omega, Lib.hid (by rw [HF.out]; rfl), hb.out⟩
      case measure => simp only [intOf]; omega
    · have hk15 : k = 15 := by omega
      subst hk15
      go_wp2_with fail
      have HM := Lib.hid (md_bnd (a := 2147483648) (p := p) (by decide) hp)
      generalize hav : md 2147483648 p = av at *
      go_loopw [4, 13, 14, 15, 16, 17, 18, 19, 20, 21, 22, 23, 24, 25, 26, 27, 28, 29, 30, 31, 32, 33, 34] (fun _ v _ _ _ _ _ _ _ _ _ _ _ _ _ _ _ _ _ _ _ _ _ wr => ∃ k : Nat, v = .int .u64 (k : Nat) ∧ k ≤ 256 ∧ Hid (TabB wr b p 0 1 (fun i => if i < k then ml i av p else A i) (fun i => if i < k then ml i f p else F i) ∧ Grown b w wr)) (fun _ v _ _ _ _ _ _ _ _ _ _ _ _ _ _ _ _ _ _ _ _ _ _ => 256 - (intOf v).toNat)
      case atStart => exact ⟨0, rfl, by omega, Lib.hid ⟨by simpa using ht, Grown.refl b w⟩⟩
      case round =>
        obtain ⟨k, rfl, hk, HT⟩ := hrel
        by_cases e2 : k < 256
        · have hT := HT.out.1
          have hG := HT.out.2
          have d1 : wr.cell? ⟨bp, 0, none⟩ = some (.int .u64 (p : Nat)) := by rw [hG.cell n1 (cell_lt h1)]; exact h1
          have d2 : wr.cell? ⟨br, 0, none⟩ = some (.pointer (some ⟨b, 1, none⟩)) := by rw [hG.cell n2 (cell_lt h2)]; exact h2
          obtain ⟨x3, d3⟩ : ∃ x, wr.cell? ⟨b, 4 + k, none⟩ = some x := ⟨_, hT.ab k e2⟩
          have d4 := hT.fz (4 + k)
          clear hT
          go_wp2_with fail
          clear hav
          have hmul : ∀ w2, Calls Try.prog 41 #[.int .u64 (k : Nat), .int .u64 (av : Nat), .int .u64 (p : Nat)] w2 fun e w' => e = .returned (.int .u64 (ml k av p : Nat)) ∧ w2 = w' := fun w2 => mul_any k av p w2 (by omega) HM.out hp
          have HMU := Lib.hid hmul
          clear hmul
          go_region_law (go_simp; go_at_call 41; refine (HMU.out _).mono ?_; rintro e w' ⟨rfl, rfl⟩)
          all_goals
            have hT2 : TabB ((wr.setCell ⟨b, 4 + k, none⟩ (.int .u64 (ml k av p : Nat))).drew) b p 0 1 (upd (fun i => if i < k then ml i av p else A i) k (ml k av p)) (fun i => if i < k then ml i f p else F i) := (HT.out.1.setA k (ml k av p) e2).drew
            have hG2 : Grown b w ((wr.setCell ⟨b, 4 + k, none⟩ (.int .u64 (ml k av p : Nat))).drew) := (hG.set (4 + k) _).drew
            generalize (wr.setCell ⟨b, 4 + k, none⟩ (.int .u64 (ml k av p : Nat))).drew = w2 at *
            have f1 : w2.cell? ⟨bp, 0, none⟩ = some (.int .u64 (p : Nat)) := by rw [hG2.cell n1 (cell_lt h1)]; exact h1
            have f2 : w2.cell? ⟨br, 0, none⟩ = some (.pointer (some ⟨b, 1, none⟩)) := by rw [hG2.cell n2 (cell_lt h2)]; exact h2
            obtain ⟨x4, f3⟩ : ∃ x, w2.cell? ⟨b, 260 + k, none⟩ = some x := ⟨_, hT2.fi k e2⟩
            have f4 := hT2.fz (260 + k)
            have hmul : ∀ w2, Calls Try.prog 41 #[.int .u64 (k : Nat), .int .u64 (f : Nat), .int .u64 (p : Nat)] w2 fun e w' => e = .returned (.int .u64 (ml k f p : Nat)) ∧ w2 = w' := fun w2 => mul_any k f p w2 (by omega) hf hp
            have HMU2 := Lib.hid hmul
            have HT2 := Lib.hid hT2
            have HG2 := Lib.hid hG2
            clear hmul hT2 hG2 hG
            clear d1 d2 d3 d4 HMU HT
            go_wp2_with fail
            go_region_law (go_simp; go_at_call 41; refine (HMU2.out _).mono ?_; rintro e w' ⟨rfl, rfl⟩)
            all_goals
              go_wp2_with fail
              go_roundw
              case rel =>
                refine ⟨k + 1, by go_num, by omega, Lib.hid ⟨?_, (HG2.out.set (260 + k) _).drew⟩⟩
                have h := (HT2.out.setF k (ml k f p) e2).drew
                rw [upd_next (fun i => ml i av p) A k, upd_next (fun i => ml i f p) F k] at h
                exact h
              case measure => simp only [intOf]; omega
        · have hk2 : k = 256 := by omega
          have hT := HT.out
          subst hk2
          go_wp2_with fail
          go_end0
          refine ⟨rfl, ?_, hT.2⟩
          have h1 := hT.1
          refine h1.same (fun i hi => ?_) (fun i hi => ?_)
          · rw [if_pos hi]; unfold aboveV; rw [hav]
          · rw [if_pos hi, HF.out]
end Go.Proofs.Ytjmgokjflfhohaa.rb
