/- A cutter: what it has, a byte more, what is cut. -/
import Derived.Test.YtjmgokjflfhohaaCRbM
import Derived.Test.YtjmgokjflfhohaaChMath
namespace Go.Proofs.Ytjmgokjflfhohaa.ch
open Go.RowKit Mem rb
set_option linter.unusedVariables false
variable {w w' : World} {c r b p : Nat} {pend hist : List UInt8}
/-- the rule by which a polynomial's chunks end -/
def rule (p : Nat) (q : List UInt8) : Bool := decide (256 ≤ q.length) || (decide (32 ≤ q.length) && decide (fp p (last16 q) % 64 = 63))
theorem rule_ok (p : Nat) : Rule (rule p) := by
  refine ⟨fun q h => ?_, fun q h => ?_⟩
  · unfold rule at h
    rw [Bool.or_eq_true, Bool.and_eq_true, decide_eq_true_eq, decide_eq_true_eq] at h
    rcases h with h | h
    · omega
    · exact h.1
  · unfold rule; rw [decide_eq_true h]; rfl
/-- a cutter with its roller and its table -/
structure CutB (w : World) (c r b p : Nat) (A : Option Addr) (n k : Nat) (pend hist : List UInt8) (base : Nat) : Prop where
  c0 : w.cell? ⟨c, 0, none⟩ = some (.pointer (some ⟨r, 0, none⟩))
  c1 : w.cell? ⟨c, 1, none⟩ = some (.slice A n k)
  fz : ∀ o, w.frozen? ⟨c, o, none⟩ = false
  row : Ow w base 5 A n k (bv pend)
  rol : RolS w r b p (last16 (hist ++ pend))
  tab : TabB w b p 1 0 (AV p) (FV p)
  cr : c ≠ r
  cb : c ≠ b
  rb : r ≠ b
  rc : blk A ≠ some c
  rr : blk A ≠ some r
  rt : blk A ≠ some b
theorem cut_any (A : Option Addr) (n k base : Nat) (w : World) (h : CutB w c r b p A n k pend hist base) :
    Calls Try.prog 31 #[.pointer (some ⟨c, 0, none⟩)] w fun e w' => e = .returned (.slice A n k) ∧ w' = w.setCell ⟨c, 1, none⟩ (.slice none 0 0) := by
  have h1 := h.c1
  have h2 := h.fz 1
  clear h
  go_enter Try.func31, Try.ntmps31
  go_wp2_with fail
  go_ret
  exact ⟨rfl, rfl⟩
theorem made_yes (v : Addr) (w : World) (h : w.cell? ⟨c, 0, none⟩ = some (.pointer (some v))) :
    Calls Try.prog 30 #[.pointer (some ⟨c, 0, none⟩)] w fun e w' => e = .returned (.bool true) ∧ w = w' := by
  go_enter Try.func30, Try.ntmps30
  go_wp2_with fail
  go_ret
  exact ⟨rfl, rfl⟩
/-- a cutter that no call made -/
def NoCut (w : World) (v : Value) : Prop := v = .pointer none ∨ ∃ c, v = .pointer (some ⟨c, 0, none⟩) ∧ w.cell? ⟨c, 0, none⟩ = some (.pointer none)
theorem made_no (v : Value) (w : World) (h : NoCut w v) :
    Calls Try.prog 30 #[v] w fun e w' => e = .returned (.bool false) ∧ w = w' := by
  rcases h with rfl | ⟨c, rfl, h⟩
  all_goals
    go_enter Try.func30, Try.ntmps30
    go_wp2_with fail
    go_ret
    exact ⟨rfl, rfl⟩
/-- what the world keeps, but for some blocks -/
structure Kept (w w' : World) (bad : Nat → Prop) : Prop where
  os : w'.os = w.os
  tape : w'.tape = w.tape
  output : w'.output = w.output
  size : w.heap.size ≤ w'.heap.size
  block : ∀ k, k < w.heap.size → ¬ bad k → w'.heap[k]? = w.heap[k]?
theorem Kept.refl (w : World) (bad : Nat → Prop) : Kept w w bad := ⟨rfl, rfl, rfl, Nat.le_refl _, fun _ _ _ => rfl⟩
theorem Kept.trans {w w1 w2 : World} {bad bad' : Nat → Prop} (h : Kept w w1 bad) (k : Kept w1 w2 bad') (hb : ∀ i, i < w.heap.size → bad' i → bad i) : Kept w w2 bad :=
  ⟨k.os.trans h.os, k.tape.trans h.tape, k.output.trans h.output, Nat.le_trans h.size k.size, fun i hi hn => (k.block i (Nat.lt_of_lt_of_le hi h.size) (fun e => hn (hb i hi e))).trans (h.block i hi hn)⟩
theorem Kept.of {row : Option Nat} (h : w.grownBy w' row) : Kept w w' (fun k => row = some k) := ⟨h.os, h.tape, h.output, h.size, fun i hi hn => h.block i hi (fun e => hn e.symm)⟩
theorem Kept.set (w : World) (c o : Nat) (v : Value) : Kept w (w.setCell ⟨c, o, none⟩ v) (fun k => k = c) := ⟨rfl, rfl, rfl, by rw [World.size_setCell]; exact Nat.le_refl _, fun i hi hn => Below.heap_setCell _ _ _ _ hn⟩
theorem Kept.cell {bad : Nat → Prop} (h : Kept w w' bad) {a : Addr} (hl : a.block < w.heap.size) (hb : ¬ bad a.block) : w'.cell? a = w.cell? a := World.cell?_of_block (w := w) (h.block a.block hl hb)
theorem Kept.frozen {bad : Nat → Prop} (h : Kept w w' bad) {a : Addr} (hl : a.block < w.heap.size) (hb : ¬ bad a.block) : w'.frozen? a = w.frozen? a := World.frozen?_of_block (w := w) (h.block a.block hl hb)
theorem Kept.below {bad : Nat → Prop} {B : Nat} {w0 : World} (h : Below B w0 w) (k : Kept w w' bad) (hB : B ≤ w.heap.size) (hb : ∀ i, i < B → ¬ bad i) : Below B w0 w' :=
  h.trans ⟨k.os, k.tape, k.output, k.size, fun i hi => k.block i (by omega) (hb i hi)⟩
theorem Kept.rd {bad : Nat → Prop} {B n : Nat} {A : Option Addr} {xs : List Value} (h : Kept w w' bad) (hr : Rd w B A n xs) (hB : B ≤ w.heap.size) (hne : ∀ a, A = some a → ¬ bad a.block) : Rd w' B A n xs := by
  refine ⟨hr.len, fun hn => ?_⟩
  obtain ⟨c, off, rfl, hc, hcell⟩ := hr.addr hn
  have hnc := hne _ rfl
  refine ⟨c, off, rfl, hc, fun k hk => ?_⟩
  rw [h.cell (a := ⟨c, off + k, none⟩) (show c < w.heap.size by omega) hnc]
  exact hcell k hk
theorem Kept.rol {bad : Nat → Prop} {win : List UInt8} (h : Kept w w' bad) (hr : RolS w r b p win) (hb : ¬ bad r) : RolS w' r b p win := by
  obtain ⟨L, t, h1, h2⟩ := hr
  have hl := h1.lt
  exact ⟨L, t, ⟨by rw [h.cell hl hb]; exact h1.c0, by rw [h.cell hl hb]; exact h1.c1, fun i hi => by rw [h.cell hl hb]; exact h1.la i hi, by rw [h.cell hl hb]; exact h1.ct, fun o => by rw [h.frozen hl hb]; exact h1.fz o⟩, h2⟩
theorem Kept.tab {bad : Nat → Prop} {d s : Int} {F G : Nat → Nat} (h : Kept w w' bad) (hr : TabB w b p d s F G) (hb : ¬ bad b) : TabB w' b p d s F G := by
  have hl := hr.lt
  exact ⟨by rw [h.cell hl hb]; exact hr.c0, by rw [h.cell hl hb]; exact hr.c1, by rw [h.cell hl hb]; exact hr.c2, fun i hi => by rw [h.cell hl hb]; exact hr.ab i hi, fun i hi => by rw [h.cell hl hb]; exact hr.fi i hi, fun o => by rw [h.frozen hl hb]; exact hr.fz o⟩
theorem last16_app (l r : List UInt8) (h : 16 ≤ r.length) : last16 (l ++ r) = last16 r := by
  have key : ∀ x : List UInt8, 16 ≤ x.length → last16 x = x.drop (x.length - 16) := by
    intro x hx
    unfold last16
    rw [List.drop_append, show nought.length = 16 by simp [nought]]
    have : List.drop x.length nought = [] := List.drop_eq_nil_of_le (by simp [nought]; omega)
    rw [this, List.nil_append]
  rw [key _ (by rw [List.length_append]; omega), key _ h, List.drop_append, List.length_append]
  have : List.drop (l.length + r.length - 16) l = [] := List.drop_eq_nil_of_le (by omega)
  rw [this, List.nil_append]
  congr 1; omega
/-- what a byte more leaves -/
def GrowPost (c r b p base : Nat) (A : Option Addr) (q hist : List UInt8) (w : World) (e : Ending) (w' : World) : Prop := ∃ A' k', e = .returned (.bool (rule p q)) ∧ CutB w' c r b p A' q.length k' q hist base ∧ Kept w w' (fun k => k = c ∨ k = r ∨ blk A = some k) ∧ (blk A' = blk A ∨ ∃ k, w.heap.size ≤ k ∧ blk A' = some k)
theorem Kept.more {bad bad' : Nat → Prop} (h : Kept w w' bad) (hb : ∀ i, bad i → bad' i) : Kept w w' bad' := ⟨h.os, h.tape, h.output, h.size, fun i hi hn => h.block i hi (fun e => hn (hb i e))⟩
theorem ret_bool {a b : Bool} (h : a = b) : Ending.returned (.bool a) = .returned (.bool b) := by rw [h]
theorem grow_kept {A A' : Option Addr} {o : Obj} (hg : Grew (w.alloc o) w' A A') : Kept w w' (fun k => blk A = some k) :=
  (Kept.of (World.grownBy_alloc w o (blk A))).trans (Kept.of hg.1) (fun _ _ h => h)
set_option maxRecDepth 100000 in
theorem grow_any (A : Option Addr) (n k base : Nat) (x : UInt8) (w : World) (hp : p.log2 = 31) (h : CutB w c r b p A n k pend hist base) (hn : n ≤ 256) (hbase : base ≤ w.heap.size) :
    Calls Try.prog 32 #[.pointer (some ⟨c, 0, none⟩), .int .u8 (x.toNat : Nat)] w (GrowPost c r b p base A (pend ++ [x]) hist w) := by
  have h1 := h.c1
  have h2 := h.fz 1
  have h0 := h.c0
  have ho := h.row
  have hcl := cell_lt h0
  have HH := Lib.hid h
  clear h
  go_enter Try.func32, Try.ntmps32
  go_wp2_with (at_builtin; refine wp_app u8ty rfl (.tmp 11) (.tmp 13) rfl rfl rfl (ho.alloc _) (Rd.one _ _ _) (one1 rfl) (by omega) (by omega) (by simp; omega) ?_; intro A' N k' w1 ho1 hN1 hb1 hg1; have K1 := grow_kept hg1; have e0 := (K1.cell (a := ⟨c, 0, none⟩) hcl HH.out.rc).trans h0; have e1 := (K1.cell (a := ⟨c, 1, none⟩) hcl HH.out.rc).trans h1; have e2 := (K1.frozen (a := ⟨c, 1, none⟩) hcl HH.out.rc).trans h2)
  have hl1 := ho1.len
  rw [List.length_append, bv_len, List.length_singleton] at hl1
  have hlp : pend.length = n := by rw [← bv_len]; exact ho.len
  have K2 : Kept w (w1.setCell ⟨c, 1, none⟩ (.slice A' N k')) (fun k => k = c ∨ blk A = some k) := (K1.more (fun i h => Or.inr h)).trans (Kept.set w1 c 1 _) (fun i _ h => Or.inl h)
  have g1 : (w1.setCell ⟨c, 1, none⟩ (.slice A' N k')).cell? ⟨c, 1, none⟩ = some (.slice A' N k') := World.cell?_setCell_same _ _ _ e1
  have g0 : (w1.setCell ⟨c, 1, none⟩ (.slice A' N k')).cell? ⟨c, 0, none⟩ = some (.pointer (some ⟨r, 0, none⟩)) := by rw [World.cell?_setCell_other _ _ _ _ (ne_off (by omega))]; exact e0
  have hAc : blk A' ≠ some c := by
    rcases hg1.2 with e | ⟨j, hj, e⟩
    · rw [e]; exact HH.out.rc
    · rw [e]; intro h; injection h with h; simp at hj; omega
  have hAr : blk A' ≠ some r := by
    have := HH.out.rol.lt
    rcases hg1.2 with e | ⟨j, hj, e⟩
    · rw [e]; exact HH.out.rr
    · rw [e]; intro h; injection h with h; simp at hj; omega
  have hAb : blk A' ≠ some b := by
    have := HH.out.tab.lt
    rcases hg1.2 with e | ⟨j, hj, e⟩
    · rw [e]; exact HH.out.rt
    · rw [e]; intro h; injection h with h; simp at hj; omega
  have hnew : blk A' = blk A ∨ ∃ k, w.heap.size ≤ k ∧ blk A' = some k := by
    rcases hg1.2 with e | ⟨j, hj, e⟩
    · exact Or.inl e
    · exact Or.inr ⟨j, by simp at hj; omega, e⟩
  have ho2 : Ow (w1.setCell ⟨c, 1, none⟩ (.slice A' N k')) base 5 A' N k' (bv pend ++ [.int .u8 (x.toNat : Nat)]) := ho1.kept (row := some c) ⟨rfl, rfl, rfl, by rw [World.size_setCell]; exact Nat.le_refl _, fun i hi hne => Below.heap_setCell _ _ _ _ (fun e => hne (by rw [e]))⟩ (Or.inr hAc)
  have hR2 := K2.rol HH.out.rol (fun h => h.elim (fun e => HH.out.cr e.symm) HH.out.rr)
  have hT2 := K2.tab HH.out.tab (fun h => h.elim (fun e => HH.out.cb e.symm) HH.out.rt)
  have hz2 : ∀ o, (w1.setCell ⟨c, 1, none⟩ (.slice A' N k')).frozen? ⟨c, o, none⟩ = false := fun o => by rw [frozen_set, K1.frozen hcl HH.out.rc]; exact HH.out.fz o
  generalize w1.setCell ⟨c, 1, none⟩ (.slice A' N k') = w2 at *
  clear e0 e1 e2 ho1 hb1 hg1 K1 ho
  refine (next_s (last16 (hist ++ pend)) x w2 hp hT2 hR2 HH.out.rb).mono ?_
  rw [← last16_snoc, List.append_assoc]
  rintro e w3 ⟨rfl, hR3, hG3⟩
  have K3 : Kept w w3 (fun k => k = c ∨ k = r ∨ blk A = some k) := (K2.more (fun i h => h.imp id Or.inr)).trans (Kept.of hG3) (fun i _ h => Or.inr (Or.inl (by injection h with h; exact h.symm)))
  have hc2 := cell_lt g1
  have g3 : w3.cell? ⟨c, 1, none⟩ = some (.slice A' N k') := by rw [hG3.cell (a := ⟨c, 1, none⟩) HH.out.cr hc2]; exact g1
  have hCB : CutB w3 c r b p A' N k' (pend ++ [x]) hist base := by
    refine ⟨by rw [hG3.cell (a := ⟨c, 0, none⟩) HH.out.cr hc2]; exact g0, g3, fun o => ?_, ?_, hR3, hT2.grown hG3 (fun e => HH.out.rb e.symm), HH.out.cr, HH.out.cb, HH.out.rb, hAc, hAr, hAb⟩
    · rw [World.grownBy.frozen_far hG3 ⟨c, o, none⟩ hc2 (fun e => HH.out.cr (by injection e))]; exact hz2 o
    · rw [bv_app]; exact ho2.kept hG3 (Or.inr (fun e => hAr e))
  have hN : N = (pend ++ [x]).length := by rw [List.length_append, List.length_singleton]; omega
  obtain ⟨f, hf⟩ : ∃ f, fp p (last16 (hist ++ (pend ++ [x]))) = f := ⟨_, rfl⟩
  rw [hf]
  have hfb : f < 2147483648 := by rw [← hf]; exact fp_low hp _ 0 (by decide)
  have hbits : (bits .and .u64 (f : Int) 63 == 63) = decide (f % 64 = 63) := by
    have hx : bits .and .u64 (f : Int) 63 = ((f % 64 : Nat) : Int) := by
      have h6 := Nat.and_two_pow_sub_one_eq_mod f 6
      rw [show (2 : Nat) ^ 6 = 64 from rfl] at h6
      rw [show (63 : Int) = ((63 : Nat) : Int) from rfl, u64_and_nat _ _ (by omega) (by decide), h6]
    rw [hx]
    by_cases c63 : f % 64 = 63
    · rw [c63]; rfl
    · rw [decide_eq_false c63, beq_eq_false_iff_ne]; omega
  have hrule : rule p (pend ++ [x]) = (decide (256 ≤ N) || (decide (32 ≤ N) && decide (f % 64 = 63))) := by
    unfold rule
    rw [← hN]
    by_cases c32 : 32 ≤ N
    · rw [← hf, last16_app hist (pend ++ [x]) (by omega)]
    · rw [decide_eq_false c32, decide_eq_false (by omega : ¬ 256 ≤ N)]; rfl
  have HF := Lib.hid (And.intro hCB (And.intro K3 hnew))
  have HRU := Lib.hid hrule
  have HNN := Lib.hid hN
  have hNb : N ≤ 257 := by omega
  clear hCB K3 hnew hR3 hG3 hrule hN hf K2 hR2 hT2 hz2 ho2 g0 g1 hAc hAr hAb hl1 hlp
  obtain ⟨d, hd⟩ : ∃ d, decide (f % 64 = 63) = d := ⟨_, rfl⟩
  rw [hd] at hbits HRU
  clear hd
  by_cases c256 : 256 ≤ N
  · have i1 : (256 : Int) ≤ (N : Int) := by omega
    go_wp2_with fail
    go_ret
    refine ⟨A', k', ret_bool ?_, by rw [← HNN.out]; exact HF.out.1, HF.out.2⟩
    rw [HRU.out, decide_eq_true c256]; rfl
  · have i1 : ¬ (256 : Int) ≤ (N : Int) := by omega
    by_cases c32 : 32 ≤ N
    · have i2 : (32 : Int) ≤ (N : Int) := by omega
      go_wp2_with fail
      go_ret
      refine ⟨A', k', ret_bool ?_, by rw [← HNN.out]; exact HF.out.1, HF.out.2⟩
      rw [HRU.out, decide_eq_false c256, decide_eq_true c32, show decide ((256 : Int) ≤ (N : Int)) = false from decide_eq_false (by omega)]; rfl
    · have i2 : ¬ (32 : Int) ≤ (N : Int) := by omega
      go_wp2_with fail
      go_ret
      refine ⟨A', k', ret_bool ?_, by rw [← HNN.out]; exact HF.out.1, HF.out.2⟩
      rw [HRU.out, decide_eq_false c256, decide_eq_false c32, show decide ((256 : Int) ≤ (N : Int)) = false from decide_eq_false (by omega)]; rfl
#print axioms grow_any
end Go.Proofs.Ytjmgokjflfhohaa.ch
