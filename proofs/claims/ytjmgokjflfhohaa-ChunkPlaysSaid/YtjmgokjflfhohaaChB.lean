/- New; slices of slices; Write. -/
import Derived.Test.YtjmgokjflfhohaaChA
namespace Go.Proofs.Ytjmgokjflfhohaa.ch
open Go.RowKit Mem rb
set_option linter.unusedVariables false
variable {w w' : World} {c r b p : Nat} {pend hist : List UInt8}
theorem poly0 (v : Value) (w : World) (h : v = .pointer none ∨ ∃ b, v = .pointer (some ⟨b, 0, none⟩) ∧ w.cell? ⟨b, 0, none⟩ = some (.int .u64 0)) : Calls Try.prog 37 #[v] w fun e w' => e = .returned (.int .u64 0) ∧ w = w' := by
  rcases h with rfl | ⟨b, rfl, h⟩
  · exact poly_nil w
  · exact poly_any (p := 0) w h
theorem roll0 (v : Value) (w : World) (h : v = .pointer none ∨ ∃ b, v = .pointer (some ⟨b, 0, none⟩) ∧ w.cell? ⟨b, 0, none⟩ = some (.int .u64 0)) : Calls Try.prog 29 #[v] w fun e w' => e = .returned (.pointer none) ∧ w = w' := by
  have H := Lib.hid (poly0 v w h)
  clear h
  go_enter Try.func29, Try.ntmps29
  go_wp2_with (go_at_call 37; refine H.out.mono ?_; rintro e w' ⟨rfl, rfl⟩)
  go_ret
  exact ⟨rfl, rfl⟩
theorem new0 (v : Value) (w : World) (h : v = .pointer none ∨ ∃ b, v = .pointer (some ⟨b, 0, none⟩) ∧ w.cell? ⟨b, 0, none⟩ = some (.int .u64 0)) : Calls Try.prog 21 #[v] w fun e w' => e = .returned (.pointer none) ∧ w = w' := by
  have H := Lib.hid (roll0 v w h)
  clear h
  go_enter Try.func21, Try.ntmps21
  go_wp2_with (go_at_call 29; refine H.out.mono ?_; rintro e w' ⟨rfl, rfl⟩)
  go_ret
  exact ⟨rfl, rfl⟩
/-- what New leaves: a fresh cutter -/
def NewPost (b p : Nat) (w : World) (e : Ending) (w' : World) : Prop := ∃ c r, e = .returned (.pointer (some ⟨c, 0, none⟩)) ∧ w.heap.size ≤ c ∧ w.heap.size ≤ r ∧ CutB w' c r b p none 0 0 [] [] w.heap.size ∧ Kept w w' (fun k => k = b)
theorem new_any (b p : Nat) (w : World) (hp : p.log2 = 31) (ht : TabOk w b p) :
    Calls Try.prog 21 #[.pointer (some ⟨b, 0, none⟩)] w (NewPost b p w) := by
  have hbw : b < w.heap.size := by rcases ht with h | h <;> exact h.lt
  go_enter Try.func21, Try.ntmps21
  go_wp2_with fail
  refine (roll_any b p w hp ht).mono ?_
  rintro e w2 ⟨r, rfl, hrw, hR, hT, hG⟩
  have hrl := hR.lt
  go_wp2_with fail
  go_ret
  have hs := hG.size
  have g0 : (w2.alloc (.cells #[.pointer (some ⟨r, 0, none⟩), .slice none 0 0] 57)).cell? ⟨w2.heap.size, 0, none⟩ = some (.pointer (some ⟨r, 0, none⟩)) := by go_simp
  have g1 : (w2.alloc (.cells #[.pointer (some ⟨r, 0, none⟩), .slice none 0 0] 57)).cell? ⟨w2.heap.size, 1, none⟩ = some (.slice none 0 0) := by go_simp
  have K := Kept.of (World.grownBy_alloc w2 (.cells #[.pointer (some ⟨r, 0, none⟩), .slice none 0 0] 57) none)
  refine ⟨w2.heap.size, r, rfl, by omega, hrw, ⟨g0, g1, fun o => by go_simp, Ow.nil _ _ _, K.rol (RolS.start hp hR) (by simp), hT.alloc _, by omega, by omega, by omega, by simp [blk], by simp [blk], by simp [blk]⟩, ?_⟩
  exact ((Kept.of hG).more (fun i h => by injection h with h; exact h.symm)).trans K (fun i _ h => by cases h)
/- slices of slices -/
theorem sty : Ty1 Try.prog 29 23 (.slice none 0 0) 24 :=
  ⟨Try.underlying29, by
    have h : (Try.prog.info? 23).map (fun i => (i.zero, i.size, i.bytes)) = some (some (.slice none 0 0), 1, 24) := by kernel_rfl
    obtain ⟨i, h1, h2, h3, h4⟩ := info_parts h
    exact ⟨i, h1, h2, h3, h4⟩, rfl⟩
/-- values that are slices of bytes made since, and what they show -/
inductive Rows (w : World) (base : Nat) : List Value → List (List UInt8) → Prop
  | nil : Rows w base [] []
  | cons {A : Option Addr} {n k : Nat} {x : List UInt8} {vs : List Value} {xs : List (List UInt8)} : Ow w base 5 A n k (bv x) → Rows w base vs xs → Rows w base (.slice A n k :: vs) (x :: xs)
theorem Rows.snoc {base : Nat} {vs : List Value} {xs : List (List UInt8)} (h : Rows w base vs xs) {A : Option Addr} {n k : Nat} {x : List UInt8} (ho : Ow w base 5 A n k (bv x)) : Rows w base (vs ++ [.slice A n k]) (xs ++ [x]) := by
  induction h with
  | nil => exact .cons ho .nil
  | cons h1 _ ih => exact .cons h1 ih
theorem Rows.len {base : Nat} {vs : List Value} {xs : List (List UInt8)} (h : Rows w base vs xs) : vs.length = xs.length := by
  induction h with
  | nil => rfl
  | cons _ _ ih => simp [ih]
/-- no row of them lies in such a block -/
def Off (bad : Nat → Prop) (vs : List Value) : Prop := ∀ A n k, Value.slice A n k ∈ vs → ∀ i, blk A = some i → ¬ bad i
theorem Kept.ow {bad : Nat → Prop} {base : Nat} {E : TypeId} {A : Option Addr} {n k : Nat} {xs : List Value} (hk : Kept w w' bad) (h : Ow w base E A n k xs) (hb : ∀ i, blk A = some i → ¬ bad i) : Ow w' base E A n k xs := by
  refine ⟨h.1, ?_⟩
  rcases h.2 with h0 | ⟨g, cap, cur, hv, hbase, hg, rest⟩
  · exact .inl h0
  · refine .inr ⟨g, cap, cur, hv, hbase, ?_, rest⟩
    have hlt : g < w.heap.size := by
      apply Nat.lt_of_not_le
      intro hle
      rw [Array.getElem?_eq_none hle] at hg
      cases hg
    have hA : blk A = some g := by
      injection hv with e1 e2 e3
      rw [e1]; rfl
    rw [hk.block g hlt (hb g hA)]
    exact hg
theorem Rows.kept {base : Nat} {vs : List Value} {xs : List (List UInt8)} (h : Rows w base vs xs) {bad : Nat → Prop} (hk : Kept w w' bad) (ho : Off bad vs) : Rows w' base vs xs := by
  induction h with
  | nil => exact .nil
  | @cons A n k x vs xs h1 _ ih =>
    exact .cons (hk.ow h1 (ho A n k (List.mem_cons_self ..))) (ih (fun A n k hm => ho A n k (List.mem_cons_of_mem _ hm)))
theorem Rows.lt {base : Nat} {vs : List Value} {xs : List (List UInt8)} (h : Rows w base vs xs) : ∀ A n k, Value.slice A n k ∈ vs → ∀ i, blk A = some i → base ≤ i ∧ i < w.heap.size := by
  induction h with
  | nil => intro A n k hm; cases hm
  | @cons A n k x vs xs h1 _ ih =>
    intro A2 n2 k2 hm i hi
    rcases List.mem_cons.1 hm with e | e
    · injection e with e1 e2 e3
      subst e1
      exact h1.blk_lt i hi
    · exact ih A2 n2 k2 e i hi
theorem Rows.at_ {base : Nat} {vs : List Value} {xs : List (List UInt8)} (h : Rows w base vs xs) : ∀ i, (hi : i < xs.length) → ∃ A n k, vs[i]? = some (.slice A n k) ∧ Ow w base 5 A n k (bv xs[i]) := by
  induction h with
  | nil => intro i hi; simp at hi
  | @cons A n k x vs xs h1 _ ih =>
    intro i hi
    cases i with
    | zero => exact ⟨A, n, k, rfl, h1⟩
    | succ i =>
      obtain ⟨A2, n2, k2, e1, e2⟩ := ih i (by simpa using hi)
      exact ⟨A2, n2, k2, by simpa using e1, by simpa using e2⟩
theorem Rows.one {base : Nat} {vs : List Value} {xs : List (List UInt8)} (h : Rows w base vs xs) : ∀ u ∈ vs, u.oneCell' = true := by
  induction h with
  | nil => intro u hu; cases hu
  | cons _ _ ih =>
    intro u hu
    rcases List.mem_cons.1 hu with rfl | hu
    · rfl
    · exact ih u hu
theorem cut_count (e : List UInt8 → Bool) : ∀ (l pend : List UInt8), (cutF e pend l).1.length ≤ l.length
  | [], pend => by rw [cut_nil]; exact Nat.le_refl _
  | x :: l, pend => by
    cases h : e (pend ++ [x]) with
    | true => rw [cut_hit _ h]; have := cut_count e l []; simp; omega
    | false => rw [cut_miss _ h]; have := cut_count e l (pend ++ [x]); simp; omega
/-- in the midst of Write: the chunks that ended, and the cutter behind them -/
structure InvW (c r b p base : Nat) (A0 : Option Addr) (pend l : List UInt8) (w w' : World) (A : Option Addr) (n k : Nat) (vs : List Value) (A' : Option Addr) (m k' : Nat) : Prop where
  row : Ow w' w.heap.size 23 A n k vs
  rows : Rows w' base vs (cutF (rule p) pend l).1
  cut : ∃ h', CutB w' c r b p A' m k' (cutF (rule p) pend l).2 h' base
  kept : Kept w w' (fun i => i = c ∨ i = r ∨ blk A0 = some i)
  pa : ∀ i, i < w.heap.size → blk A' = some i → blk A0 = some i
  off : Off (fun i => i = c ∨ i = r ∨ i = b ∨ blk A' = some i ∨ blk A = some i) vs
  oa : ∀ i, blk A = some i → i ≠ c ∧ i ≠ r ∧ i ≠ b ∧ blk A' ≠ some i
  fr : ∀ B n k, Value.slice B n k ∈ vs → ∀ i, blk B = some i → i < w.heap.size → blk A0 = some i
theorem InvW.start {base : Nat} {A0 : Option Addr} {m k' : Nat} (h : CutB w c r b p A0 m k' pend hist base) : InvW c r b p base A0 pend [] w w none 0 0 [] A0 m k' := by
  refine ⟨Ow.nil _ _ _, ?_, ?_, Kept.refl _ _, fun i _ h => h, fun A n k hm => (by cases hm), fun i h => (by cases h), fun B n k hm => (by cases hm)⟩
  · rw [cut_nil]; exact .nil
  · rw [cut_nil]; exact ⟨hist, h⟩
section steps
variable {base : Nat} {A0 A A' A2 : Option Addr} {l : List UInt8} {wr w5 : World} {n k m k' k2 : Nat} {vs : List Value} {x : UInt8}
theorem InvW.miss (h : InvW c r b p base A0 pend l w wr A n k vs A' m k') (hm : rule p ((cutF (rule p) pend l).2 ++ [x]) = false) {h' : List UInt8}
    (hc : CutB w5 c r b p A2 ((cutF (rule p) pend l).2 ++ [x]).length k2 ((cutF (rule p) pend l).2 ++ [x]) h' base) (hk : Kept wr w5 (fun i => i = c ∨ i = r ∨ blk A' = some i)) (hA : blk A2 = blk A' ∨ ∃ i, wr.heap.size ≤ i ∧ blk A2 = some i) :
    InvW c r b p base A0 pend (l ++ [x]) w w5 A n k vs A2 ((cutF (rule p) pend l).2 ++ [x]).length k2 := by
  have hsz := h.kept.size
  have hl := h.rows.lt
  have ha : ∀ i, blk A = some i → i < wr.heap.size := fun i hi => (h.row.blk_lt i hi).2
  have hcut : cutF (rule p) pend (l ++ [x]) = ((cutF (rule p) pend l).1, (cutF (rule p) pend l).2 ++ [x]) := by rw [cut_snoc, hm]; rfl
  refine ⟨?_, ?_, ?_, ?_, ?_, ?_, ?_, h.fr⟩
  · exact hk.ow h.row (fun i hi hb => by
      have := h.oa i hi
      rcases hb with e | e | e
      · exact this.1 e
      · exact this.2.1 e
      · exact this.2.2.2 e)
  · rw [hcut]
    exact h.rows.kept hk (fun B n k hmem i hi hb => by
      apply h.off B n k hmem i hi
      rcases hb with e | e | e
      · exact Or.inl e
      · exact Or.inr (Or.inl e)
      · exact Or.inr (Or.inr (Or.inr (Or.inl e))))
  · rw [hcut]; exact ⟨h', hc⟩
  · exact h.kept.trans hk (fun i hi hb => by
      rcases hb with e | e | e
      · exact Or.inl e
      · exact Or.inr (Or.inl e)
      · exact Or.inr (Or.inr (h.pa i hi e)))
  · intro i hi hA2
    rcases hA with e | ⟨j, hj, e⟩
    · exact h.pa i hi (by rw [← e]; exact hA2)
    · rw [e] at hA2; injection hA2 with h1; omega
  · intro B n k hmem i hi hb
    have hlt := hl B n k hmem i hi
    apply h.off B n k hmem i hi
    rcases hb with e | e | e | e | e
    · exact Or.inl e
    · exact Or.inr (Or.inl e)
    · exact Or.inr (Or.inr (Or.inl e))
    · rcases hA with e2 | ⟨j, hj, e2⟩
      · exact Or.inr (Or.inr (Or.inr (Or.inl (by rw [← e2]; exact e))))
      · rw [e2] at e; injection e with h1; omega
    · exact Or.inr (Or.inr (Or.inr (Or.inr e)))
  · intro i hi
    have h1 := h.oa i hi
    refine ⟨h1.1, h1.2.1, h1.2.2.1, ?_⟩
    rcases hA with e2 | ⟨j, hj, e2⟩
    · rw [e2]; exact h1.2.2.2
    · rw [e2]; intro e; injection e with e3; have := ha i hi; omega
theorem InvW.hit {w6 w8 : World} {A8 : Option Addr} {n8 k8 : Nat} (h : InvW c r b p base A0 pend l w wr A n k vs A' m k') (hm : rule p ((cutF (rule p) pend l).2 ++ [x]) = true) {h' : List UInt8} (hb0 : base ≤ w.heap.size)
    (hc : CutB w5 c r b p A2 ((cutF (rule p) pend l).2 ++ [x]).length k2 ((cutF (rule p) pend l).2 ++ [x]) h' base) (hk : Kept wr w5 (fun i => i = c ∨ i = r ∨ blk A' = some i)) (hA : blk A2 = blk A' ∨ ∃ i, wr.heap.size ≤ i ∧ blk A2 = some i)
    (h6 : w6 = w5.setCell ⟨c, 1, none⟩ (.slice none 0 0)) (ho : Ow w8 w.heap.size 23 A8 n8 k8 (vs ++ [.slice A2 ((cutF (rule p) pend l).2 ++ [x]).length k2])) (hg : Kept w6 w8 (fun i => blk A = some i)) (hA8 : blk A8 = blk A ∨ ∃ i, w6.heap.size ≤ i ∧ blk A8 = some i) :
    InvW c r b p base A0 pend (l ++ [x]) w w8 A8 n8 k8 (vs ++ [.slice A2 ((cutF (rule p) pend l).2 ++ [x]).length k2]) none 0 0 := by
  have hsz := h.kept.size
  have hsz5 := hk.size
  have hl := h.rows.lt
  have ha : ∀ i, blk A = some i → i < wr.heap.size := fun i hi => (h.row.blk_lt i hi).2
  have hcl := cell_lt hc.c0
  have hrl := hc.rol.lt
  have hbl := hc.tab.lt
  have hcut : cutF (rule p) pend (l ++ [x]) = ((cutF (rule p) pend l).1 ++ [(cutF (rule p) pend l).2 ++ [x]], []) := by rw [cut_snoc, hm]; rfl
  have K6 : Kept w5 w6 (fun i => i = c) := by rw [h6]; exact Kept.set w5 c 1 _
  have hs6 : w6.heap.size = w5.heap.size := by rw [h6, World.size_setCell]
  have hA2n : ∀ i, blk A2 = some i → i < w5.heap.size := fun i hi => (hc.row.blk_lt i hi).2
  have hAA2 : ∀ i, blk A = some i → blk A2 ≠ some i := by
    intro i hi e
    rcases hA with e2 | ⟨j, hj, e2⟩
    · exact (h.oa i hi).2.2.2 (by rw [← e2]; exact e)
    · rw [e2] at e; injection e with e3; have := ha i hi; omega
  have o5 : Off (fun i => i = c ∨ i = r ∨ blk A' = some i) vs := fun B n k hmem i hi hb => h.off B n k hmem i hi (by
    rcases hb with e | e | e
    · exact Or.inl e
    · exact Or.inr (Or.inl e)
    · exact Or.inr (Or.inr (Or.inr (Or.inl e))))
  have o6 : Off (fun i => i = c) vs := fun B n k hmem i hi hb => h.off B n k hmem i hi (Or.inl hb)
  have o8 : Off (fun i => blk A = some i) vs := fun B n k hmem i hi hb => h.off B n k hmem i hi (Or.inr (Or.inr (Or.inr (Or.inr hb))))
  have r8 := ((h.rows.kept hk o5).kept K6 o6).kept hg o8
  have x8 := hg.ow (K6.ow hc.row (fun i hi e => hc.rc (by rw [hi, e]))) (fun i hi e => hAA2 i e hi)
  have nc : ¬ blk A = some c := fun e => (h.oa c e).1 rfl
  have nr : ¬ blk A = some r := fun e => (h.oa r e).2.1 rfl
  have nb : ¬ blk A = some b := fun e => (h.oa b e).2.2.1 rfl
  have k68 : Kept w5 w8 (fun i => i = c ∨ blk A = some i) := (K6.more (fun i e => Or.inl e)).trans hg (fun i _ e => Or.inr e)
  refine ⟨ho, ?_, ?_, ?_, ?_, ?_, ?_, ?_⟩
  · rw [hcut]; exact r8.snoc x8
  · rw [hcut]
    refine ⟨h' ++ ((cutF (rule p) pend l).2 ++ [x]), ⟨?_, ?_, ?_, Ow.nil _ _ _, ?_, ?_, hc.cr, hc.cb, hc.rb, by simp [blk], by simp [blk], by simp [blk]⟩⟩
    · rw [hg.cell (a := ⟨c, 0, none⟩) (show c < w6.heap.size by omega) nc, h6, World.cell?_setCell_other _ _ _ _ (ne_off (by omega))]; exact hc.c0
    · rw [hg.cell (a := ⟨c, 1, none⟩) (show c < w6.heap.size by omega) nc, h6]; exact World.cell?_setCell_same _ _ _ hc.c1
    · intro o
      rw [hg.frozen (a := ⟨c, o, none⟩) (show c < w6.heap.size by omega) nc, h6, frozen_set]; exact hc.fz o
    · rw [List.append_nil]; exact k68.rol hc.rol (fun e => e.elim (fun e => hc.cr e.symm) nr)
    · exact k68.tab hc.tab (fun e => e.elim (fun e => hc.cb e.symm) nb)
  · exact (h.kept.trans hk (fun i hi hb => by
      rcases hb with e | e | e
      · exact Or.inl e
      · exact Or.inr (Or.inl e)
      · exact Or.inr (Or.inr (h.pa i hi e)))).trans k68 (fun i hi e => by
        rcases e with e | e
        · exact Or.inl e
        · have := (h.row.blk_lt i e).1; omega)
  · intro i _ e; cases e
  · intro B n2 k3 hmem i hi hb
    rcases List.mem_append.1 hmem with hmem | hmem
    · have hlt := hl B n2 k3 hmem i hi
      apply h.off B n2 k3 hmem i hi
      rcases hb with e | e | e | e | e
      · exact Or.inl e
      · exact Or.inr (Or.inl e)
      · exact Or.inr (Or.inr (Or.inl e))
      · cases e
      · rcases hA8 with e2 | ⟨j, hj, e2⟩
        · exact Or.inr (Or.inr (Or.inr (Or.inr (by rw [← e2]; exact e))))
        · rw [e2] at e; injection e with h1; omega
    · rw [List.mem_singleton] at hmem
      injection hmem with e1 e2 e3
      subst e1
      rcases hb with e | e | e | e | e
      · exact hc.rc (by rw [hi, e])
      · exact hc.rr (by rw [hi, e])
      · exact hc.rt (by rw [hi, e])
      · cases e
      · rcases hA8 with e2 | ⟨j, hj, e2⟩
        · exact hAA2 i (by rw [← e2]; exact e) hi
        · rw [e2] at e; injection e with h1; have := hA2n i hi; omega
  · intro i hi
    rcases hA8 with e2 | ⟨j, hj, e2⟩
    · have h1 := h.oa i (by rw [← e2]; exact hi)
      exact ⟨h1.1, h1.2.1, h1.2.2.1, by simp [blk]⟩
    · rw [e2] at hi; injection hi with h1
      refine ⟨by omega, by omega, by omega, by simp [blk]⟩
  · intro B n2 k3 hmem i hi hlt
    rcases List.mem_append.1 hmem with hmem | hmem
    · exact h.fr B n2 k3 hmem i hi hlt
    · rw [List.mem_singleton] at hmem
      injection hmem with e1 e2 e3
      subst e1
      rcases hA with e2 | ⟨j, hj, e2⟩
      · exact h.pa i hlt (by rw [← e2]; exact hi)
      · rw [e2] at hi; injection hi with h1; omega
end steps
/-- what Write leaves -/
def WritePost (c r b p base : Nat) (A0 : Option Addr) (pend l : List UInt8) (w : World) (e : Ending) (w' : World) : Prop := ∃ A n k vs A' m k', e = .returned (.slice A n k) ∧ InvW c r b p base A0 pend l w w' A n k vs A' m k'
theorem write_any (A0 : Option Addr) (m0 k0 base : Nat) (B : Option Addr) (n k D : Nat) (l : List UInt8) (w : World) (hp : p.log2 = 31) (h : CutB w c r b p A0 m0 k0 pend hist base) (hpend : pend.length < 256) (hb0 : base ≤ w.heap.size)
    (hr : ∀ w', Kept w w' (fun i => i = c ∨ i = r ∨ blk A0 = some i) → Rd w' D B n (bv l)) (hn : n ≤ 1048576) :
    Calls Try.prog 24 #[.pointer (some ⟨c, 0, none⟩), .slice B n k] w (WritePost c r b p base A0 pend l w) := by
  have Hn := Lib.hid (show l.length = n by rw [← bv_len, (hr w (Kept.refl _ _)).len])
  have h0 := h.c0
  have HI : Hid (InvW c r b p base A0 pend (l.take 0) w w none 0 0 [] A0 m0 k0) := Lib.hid (by rw [List.take_zero]; exact InvW.start h)
  have HR := Lib.hid hr
  clear h hr
  go_enter Try.func24, Try.ntmps24
  go_wp2_with (go_at_call 30; refine (made_yes _ _ h0).mono ?_; rintro e w' ⟨rfl, rfl⟩)
  go_loopw [5, 7, 13, 14, 15, 16, 17, 18, 19, 20, 21, 22, 23, 24, 25, 26, 27, 28, 29] (fun v5 _ v13 _ _ _ _ _ _ _ _ _ _ _ _ _ _ _ _ wr => ∃ (j : Nat) (A : Option Addr) (nn kk : Nat) (vs : List Value) (A' : Option Addr) (m k' : Nat), v5 = .slice A nn kk ∧ v13 = .int .i64 (j : Nat) ∧ j ≤ n ∧ Hid (InvW c r b p base A0 pend (l.take j) w wr A nn kk vs A' m k')) (fun _ _ v _ _ _ _ _ _ _ _ _ _ _ _ _ _ _ _ _ => n - (intOf v).toNat)
  case atStart => exact ⟨0, none, 0, 0, [], A0, m0, k0, rfl, rfl, by omega, HI⟩
  case round =>
    obtain ⟨j, A, nn, kk, vs, A', m, k', rfl, rfl, hj, HV⟩ := hrel
    by_cases hlt : j < n
    · have hjl : j < l.length := by have := Hn.out; omega
      obtain ⟨b1, o1, rfl, hb1, hcell⟩ := (HR.out wr HV.out.kept).at_ hlt
      rw [bv_at l j hjl] at hcell
      obtain ⟨x, hx⟩ : ∃ x, x = l[j] := ⟨_, rfl⟩
      rw [← hx] at hcell
      have htk : l.take (j + 1) = l.take j ++ [x] := by rw [take_snoc8 l j hjl, hx]
      have HTK := Lib.hid htk
      have hk1 : (j : Int) < (n : Int) := by omega
      obtain ⟨h', hc⟩ := HV.out.cut
      have hsz := (cut_sizes (rule_ok p) (l.take j) pend hpend).2
      have hml : m = (cutF (rule p) pend (l.take j)).2.length := by have := hc.row.len; rw [bv_len] at this; exact this.symm
      have HC := Lib.hid hc
      have hbw : base ≤ wr.heap.size := Nat.le_trans hb0 HV.out.kept.size
      have hcnt := cut_count (rule p) (l.take j) pend
      have hvl := HV.out.row.len
      have hvr := HV.out.rows.len
      have hnn : nn ≤ 1048576 := by rw [List.length_take] at hcnt; omega
      clear hcnt hvl hvr hx htk hc
      go_wp2_with fail
      refine (grow_any A' m k' base x wr hp HC.out (by omega) hbw).mono ?_
      rintro e w5 ⟨A2, k2, rfl, hc5, hk5, hA5⟩
      cases hm : rule p ((cutF (rule p) pend (l.take j)).2 ++ [x]) with
      | false =>
        have hI := HV.out.miss hm hc5 hk5 hA5
        rw [← HTK.out] at hI
        clear hc5 hk5 hA5 hm
        go_wp2_with fail
        go_roundw
        case rel => exact ⟨j + 1, A, nn, kk, vs, A2, _, k2, rfl, by go_num, by omega, Lib.hid hI⟩
        case measure => simp only [intOf]; omega
      | true =>
        obtain ⟨N, hN⟩ : ∃ N, N = ((cutF (rule p) pend (l.take j)).2 ++ [x]).length := ⟨_, rfl⟩
        have HI := Lib.hid (fun (w6 w8 : World) (A8 : Option Addr) (n8 k8 : Nat) => HV.out.hit (w6 := w6) (w8 := w8) (A8 := A8) (n8 := n8) (k8 := k8) hm hb0 hc5 hk5 hA5)
        have hrow5 : Ow w5 w.heap.size 23 A nn kk vs := hk5.ow HV.out.row (fun i hi hb => by
          have := HV.out.oa i hi
          rcases hb with e | e | e
          · exact this.1 e
          · exact this.2.1 e
          · exact this.2.2.2 e)
        have hrow6 : Ow (w5.setCell ⟨c, 1, none⟩ (.slice none 0 0)) w.heap.size 23 A nn kk vs := (Kept.set w5 c 1 _).ow hrow5 (fun i hi e => (HV.out.oa i hi).1 e)
        have hs6 : w.heap.size ≤ (w5.setCell ⟨c, 1, none⟩ (.slice none 0 0)).heap.size := by rw [World.size_setCell]; exact Nat.le_trans HV.out.kept.size hk5.size
        rw [← hN] at hc5 HI
        have HC5 := Lib.hid hc5
        clear hk5 hA5 hm hN hc5 hrow5
        go_wp2_with fail
        refine (cut_any A2 N k2 base w5 HC5.out).mono ?_
        rintro e w6 ⟨rfl, hw6⟩
        rw [← hw6] at hrow6 hs6
        have HW6 := Lib.hid hw6
        clear hw6
        go_wp2_with (at_builtin; refine wp_app sty rfl (.tmp 22) (.tmp 27) rfl rfl rfl (hrow6.alloc _) (Rd.one _ (.slice A2 N k2) _) (one1 (x := .slice A2 N k2) rfl) (by omega) (by omega) (by simp; omega) ?_; intro A8 n8 w8k w8 ho8 hN8 hb8 hg8; have hK8 := grow_kept hg8; have hA8 : blk A8 = blk A ∨ ∃ i, w6.heap.size ≤ i ∧ blk A8 = some i := (hg8.2.imp id (fun ⟨i, hi, e⟩ => ⟨i, (by simp at hi; omega), e⟩)))
        have hI := HI.out w6 w8 A8 n8 w8k HW6.out ho8 hK8 hA8
        rw [← HTK.out] at hI
        clear hA8 hK8 hb8 hg8 ho8
        go_roundw
        case rel => exact ⟨j + 1, A8, n8, w8k, _, none, 0, 0, rfl, by go_num, by omega, Lib.hid hI⟩
        case measure => simp only [intOf]; omega
    · have HE : Hid (InvW c r b p base A0 pend l w wr A nn kk vs A' m k') := Lib.hid (by
        have := HV.out
        rwa [List.take_of_length_le (by have := Hn.out; omega)] at this)
      go_wp2_with fail
      go_ret
      exact ⟨A, nn, kk, vs, A', m, k', rfl, HE.out⟩
end Go.Proofs.Ytjmgokjflfhohaa.ch
