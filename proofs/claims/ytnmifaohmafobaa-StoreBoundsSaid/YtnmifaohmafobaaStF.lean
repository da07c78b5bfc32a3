/- A row in memory, step by step: what each store leaves of it. -/
import Derived.Test.YtnmifaohmafobaaStE
import Derived.Test.YtnmifaohmafobaaLib
namespace Go.Proofs.Ytnmifaohmafobaa.st
open Go.RowKit Mem SM
open Go.Maps (Keyed)
set_option linter.unusedVariables false
variable {w w' : World}
def updE {α : Type} (f : Nat → α) (i : Nat) (x : α) : Nat → α := fun j => if j = i then x else f j
theorem updE_same {α : Type} (f : Nat → α) (i : Nat) (x : α) : updE f i x i = x := by simp [updE]
theorem updE_other {α : Type} (f : Nat → α) {i j : Nat} (x : α) (h : j ≠ i) : updE f i x j = f j := by simp [updE, h]
/-- a row in memory, whatever its parts have to do with one another -/
structure RowG (w : World) (O : Nat → Prop) (r g M mb : Nat) (FA : Option Addr) (fc : Nat) (E : Nat → Ent) (D : Nat → Sl) (fs : List Nat) (S : Nat) (ms : List Nat) (sf : Nat → List UInt8) (ah bh : Nat → Nat) : Prop where
  link : LinkB w r g M ah bh
  sm : ∀ n, n ≤ M → w.rangeAt g (n * 36) (bv (E n).sum)
  len : ∀ n, n ≤ M → (E n).sum.length = 32
  dc : ∀ n, n ≤ M → w.cell? ⟨g, n * 36 + 32, none⟩ = some (.slice (D n).a (D n).n (D n).c)
  dn : ∀ n, n ≤ M → (D n).n ≤ (D n).c
  dr : ∀ n, n ≤ M → Rd w w.heap.size (D n).a (D n).n (bv (E n).data)
  da : ∀ n, n ≤ M → ∀ i, blk (D n).a = some i → O i ∧ i ≠ r ∧ i ≠ g ∧ i ≠ mb ∧ blk FA ≠ some i ∧ i < w.heap.size
  hd : ∀ n, n ≤ M → w.cell? ⟨g, n * 36 + 33, none⟩ = some (.int .i64 ((E n).held : Nat))
  c1 : w.cell? ⟨r, 1, none⟩ = some (.slice FA fs.length fc)
  fo : Ow w 0 3 FA fs.length fc (nv fs)
  fb : ∀ i, blk FA = some i → O i ∧ i ≠ r ∧ i ≠ g ∧ i ≠ mb
  c2 : w.cell? ⟨r, 2, none⟩ = some (.map (some mb))
  mp : MapB w mb ms sf
  c3 : w.cell? ⟨r, 3, none⟩ = some (.int .i64 (S : Nat))
  rz : ∀ o, w.frozen? ⟨r, o, none⟩ = false
  ors : O r ∧ O g ∧ O mb
  mr : mb ≠ r ∧ mb ≠ g
  mle : 1 ≤ M ∧ M ≤ 64
  dm : ∀ n, n ≤ M → (E n).data.length ≤ 8192
section
variable {O : Nat → Prop} {r g M mb fc S : Nat} {FA : Option Addr} {E : Nat → Ent} {D : Nat → Sl} {ns fs ms : List Nat} {sf : Nat → List UInt8} {ah bh : Nat → Nat}
theorem RowB.toG (h : RowB w O r g M mb FA fc E D ns fs) : ∃ ah bh, Chain ah bh 0 ns ∧ RowG w O r g M mb FA fc E D fs (total (ns.map E)) ns (fun n => (E n).sum) ah bh := by
  obtain ⟨ah, bh, hl, hc⟩ := h.link
  exact ⟨ah, bh, hc, hl, h.sm, h.len, h.dc, h.dn, h.dr, h.da, h.hd, h.c1, h.fo, h.fb, h.c2, h.mp, h.c3, h.rz, h.ors, h.mr, h.mle, h.dm⟩
theorem RowG.toB (h : RowG w O r g M mb FA fc E D fs S ms sf ah bh) (hc : Chain ah bh 0 ns) (hm : MapB w mb ns (fun n => (E n).sum)) (hS : S = total (ns.map E)) (hp : (ns ++ fs).Perm (List.range' 1 M)) (hd : (sums (ns.map E)).Nodup) :
    RowB w O r g M mb FA fc E D ns fs :=
  ⟨⟨ah, bh, h.link, hc⟩, h.sm, h.len, h.dc, h.dn, h.dr, h.da, h.hd, h.c1, h.fo, h.fb, h.c2, hm, by rw [← hS]; exact h.c3, h.rz, hp, hd, h.ors, h.mr, h.mle, h.dm⟩
theorem RowG.lt (h : RowG w O r g M mb FA fc E D fs S ms sf ah bh) : r < w.heap.size ∧ g < w.heap.size ∧ mb < w.heap.size := by
  obtain ⟨DM, hm, _⟩ := h.mp
  exact ⟨h.link.lt.1, h.link.lt.2, hm.lt⟩
theorem RowG.relink {ah' bh' : Nat → Nat} (h : RowG w O r g M mb FA fc E D fs S ms sf ah bh) (hl : LinkB w' r g M ah' bh') (k : Relinked w w' g) : RowG w' O r g M mb FA fc E D fs S ms sf ah' bh' := by
  obtain ⟨l1, l2, l3⟩ := h.lt
  have hne := h.link.ne
  refine ⟨hl, fun n hn j v hv => ?_, h.len, fun n hn => ?_, h.dn, fun n hn => ?_, fun n hn i hi => ?_, fun n hn => ?_, ?_, k.kept.ow h.fo (fun i hi e => (h.fb i hi).2.2.1 e), h.fb, ?_, k.kept.map h.mp h.mr.2, ?_, fun o => ?_, h.ors, h.mr, h.mle, h.dm⟩
  · have hj : j < 32 := by
      have h1 := (List.getElem?_eq_some_iff.1 hv).1
      rw [bv_len, h.len n hn] at h1
      exact h1
    rw [k.cell _ (by omega)]; exact h.sm n hn j v hv
  · rw [k.cell _ (by omega)]; exact h.dc n hn
  · exact (k.kept.rd (h.dr n hn) (Nat.le_refl _) (fun i hi _ e => (h.da n hn i hi).2.2.1 e)).more k.kept.size
  · obtain ⟨a1, a2, a3, a4, a5, a6⟩ := h.da n hn i hi
    exact ⟨a1, a2, a3, a4, a5, Nat.lt_of_lt_of_le a6 k.kept.size⟩
  · rw [k.cell _ (by omega)]; exact h.hd n hn
  · rw [k.kept.cell (a := ⟨r, 1, none⟩) l1 hne]; exact h.c1
  · rw [k.kept.cell (a := ⟨r, 2, none⟩) l1 hne]; exact h.c2
  · rw [k.kept.cell (a := ⟨r, 3, none⟩) l1 hne]; exact h.c3
  · rw [k.kept.frozen (a := ⟨r, o, none⟩) l1 hne]; exact h.rz o
/-- what is written into other blocks, of the row's own the map, the free list and the digests' blocks excepted -/
theorem RowG.far {bad : Nat → Prop} (h : RowG w O r g M mb FA fc E D fs S ms sf ah bh) (k : Kept w w' bad) (hr : ¬ bad r) (hg : ¬ bad g) (hd : ∀ n, n ≤ M → ∀ i, blk (D n).a = some i → i < w.heap.size → ¬ bad i)
    {FA' : Option Addr} {fc' : Nat} {fs' ms' : List Nat} {sf' : Nat → List UInt8} {O' : Nat → Prop} (ho : ∀ i, O i → O' i) (h1 : w'.cell? ⟨r, 1, none⟩ = some (.slice FA' fs'.length fc')) (hf : Ow w' 0 3 FA' fs'.length fc' (nv fs')) (hm : MapB w' mb ms' sf')
    (hfb : ∀ i, blk FA' = some i → O' i ∧ i ≠ r ∧ i ≠ g ∧ i ≠ mb ∧ (blk FA = some i ∨ w.heap.size ≤ i)) : RowG w' O' r g M mb FA' fc' E D fs' S ms' sf' ah bh := by
  obtain ⟨l1, l2, l3⟩ := h.lt
  refine ⟨h.link.kept k hr hg, fun n hn j v hv => ?_, h.len, fun n hn => ?_, h.dn, fun n hn => ?_, fun n hn i hi => ?_, fun n hn => ?_, h1, hf, fun i hi => ⟨(hfb i hi).1, (hfb i hi).2.1, (hfb i hi).2.2.1, (hfb i hi).2.2.2.1⟩, ?_, hm, ?_, fun o => ?_, ⟨ho _ h.ors.1, ho _ h.ors.2.1, ho _ h.ors.2.2⟩, h.mr, h.mle, h.dm⟩
  · rw [k.cell (a := ⟨g, n * 36 + j, none⟩) l2 hg]; exact h.sm n hn j v hv
  · rw [k.cell (a := ⟨g, n * 36 + 32, none⟩) l2 hg]; exact h.dc n hn
  · exact (k.rd (h.dr n hn) (Nat.le_refl _) (fun i hi hlt => hd n hn i hi hlt)).more k.size
  · obtain ⟨a1, a2, a3, a4, a5, a6⟩ := h.da n hn i hi
    refine ⟨ho _ a1, a2, a3, a4, fun e => ?_, Nat.lt_of_lt_of_le a6 k.size⟩
    rcases (hfb i e).2.2.2.2 with e1 | e1
    · exact a5 e1
    · omega
  · rw [k.cell (a := ⟨g, n * 36 + 33, none⟩) l2 hg]; exact h.hd n hn
  · rw [k.cell (a := ⟨r, 2, none⟩) l1 hr]; exact h.c2
  · rw [k.cell (a := ⟨r, 3, none⟩) l1 hr]; exact h.c3
  · rw [k.frozen (a := ⟨r, o, none⟩) l1 hr]; exact h.rz o
/-- what happens elsewhere -/
theorem RowG.kept {bad : Nat → Prop} (h : RowG w O r g M mb FA fc E D fs S ms sf ah bh) (k : Kept w w' bad) (hb : ∀ i, i < w.heap.size → O i → ¬ bad i) : RowG w' O r g M mb FA fc E D fs S ms sf ah bh := by
  obtain ⟨l1, l2, l3⟩ := h.lt
  refine h.far k (hb _ l1 h.ors.1) (hb _ l2 h.ors.2.1) (fun n hn i hi hlt => hb _ hlt (h.da n hn i hi).1) (fun _ e => e) ?_ (k.ow h.fo (fun i hi => hb i (h.fo.blk_lt i hi).2 (h.fb i hi).1)) (k.map h.mp (hb _ l3 h.ors.2.2)) (fun i hi => ⟨(h.fb i hi).1, (h.fb i hi).2.1, (h.fb i hi).2.2.1, (h.fb i hi).2.2.2, Or.inl hi⟩)
  rw [k.cell (a := ⟨r, 1, none⟩) l1 (hb _ l1 h.ors.1)]; exact h.c1
theorem RowG.map (h : RowG w O r g M mb FA fc E D fs S ms sf ah bh) {ms' : List Nat} {sf' : Nat → List UInt8} (k : w.grownBy w' (some mb)) (hm : MapB w' mb ms' sf') : RowG w' O r g M mb FA fc E D fs S ms' sf' ah bh := by
  obtain ⟨l1, l2, l3⟩ := h.lt
  have K := Kept.of k
  have nr : ¬ (some mb = some r) := fun e => h.mr.1 (by injection e)
  have ng : ¬ (some mb = some g) := fun e => h.mr.2 (by injection e)
  refine h.far K nr ng (fun n hn i hi _ e => (h.da n hn i hi).2.2.2.1 (by injection e with e; exact e.symm)) (fun _ e => e) ?_ (K.ow h.fo (fun i hi e => (h.fb i hi).2.2.2 (by injection e with e; exact e.symm))) hm (fun i hi => ⟨(h.fb i hi).1, (h.fb i hi).2.1, (h.fb i hi).2.2.1, (h.fb i hi).2.2.2, Or.inl hi⟩)
  rw [K.cell (a := ⟨r, 1, none⟩) l1 nr]; exact h.c1
/-- a cell of the row itself -/
theorem RowG.setR (h : RowG w O r g M mb FA fc E D fs S ms sf ah bh) (T : Nat) : RowG (w.setCell ⟨r, 3, none⟩ (.int .i64 (T : Nat))) O r g M mb FA fc E D fs T ms sf ah bh := by
  obtain ⟨l1, l2, l3⟩ := h.lt
  have K := Kept.set w r 3 (.int .i64 (T : Nat))
  have hne := h.link.ne
  have ng : ¬ g = r := fun e => hne e.symm
  refine ⟨⟨?_, fun n hn => ?_, fun n hn => ?_, fun o => ?_, hne⟩, fun n hn j v hv => ?_, h.len, fun n hn => ?_, h.dn, fun n hn => ?_, fun n hn i hi => ?_, fun n hn => ?_, ?_, K.ow h.fo (fun i hi e => (h.fb i hi).2.1 e), h.fb, ?_, K.map h.mp h.mr.1, World.cell?_setCell_same _ _ _ h.c3, fun o => by rw [frozen_set]; exact h.rz o, h.ors, h.mr, h.mle, h.dm⟩
  · rw [World.cell?_setCell_other _ _ _ _ (ne_off (by omega))]; exact h.link.c0
  · rw [K.cell (a := ⟨g, n * 36 + 34, none⟩) l2 ng]; exact h.link.ah n hn
  · rw [K.cell (a := ⟨g, n * 36 + 35, none⟩) l2 ng]; exact h.link.bh n hn
  · rw [frozen_set]; exact h.link.gz o
  · rw [K.cell (a := ⟨g, n * 36 + j, none⟩) l2 ng]; exact h.sm n hn j v hv
  · rw [K.cell (a := ⟨g, n * 36 + 32, none⟩) l2 ng]; exact h.dc n hn
  · exact (K.rd (h.dr n hn) (Nat.le_refl _) (fun i hi _ e => (h.da n hn i hi).2.1 e)).more K.size
  · obtain ⟨a1, a2, a3, a4, a5, a6⟩ := h.da n hn i hi
    exact ⟨a1, a2, a3, a4, a5, Nat.lt_of_lt_of_le a6 K.size⟩
  · rw [K.cell (a := ⟨g, n * 36 + 33, none⟩) l2 ng]; exact h.hd n hn
  · rw [World.cell?_setCell_other _ _ _ _ (ne_off (by omega))]; exact h.c1
  · rw [World.cell?_setCell_other _ _ _ _ (ne_off (by omega))]; exact h.c2
/-- the free list is another one: of the same block, or of a new one -/
theorem RowG.setF (h : RowG w O r g M mb FA fc E D fs S ms sf ah bh) {FA' : Option Addr} {fc' : Nat} {fs' : List Nat} (k : Kept w w' (fun i => blk FA = some i)) (hf : Ow w' 0 3 FA' fs'.length fc' (nv fs')) (hb : blk FA' = blk FA ∨ ∃ i, w.heap.size ≤ i ∧ blk FA' = some i) :
    RowG (w'.setCell ⟨r, 1, none⟩ (.slice FA' fs'.length fc')) (fun i => O i ∨ w.heap.size ≤ i) r g M mb FA' fc' E D fs' S ms sf ah bh := by
  obtain ⟨l1, l2, l3⟩ := h.lt
  have nr : blk FA ≠ some r := fun e => (h.fb r e).2.1 rfl
  have ng : blk FA ≠ some g := fun e => (h.fb g e).2.2.1 rfl
  have nm : blk FA ≠ some mb := fun e => (h.fb mb e).2.2.2 rfl
  have hc := (k.cell (a := ⟨r, 1, none⟩) l1 nr).trans h.c1
  have hlt' := hf.blk_lt
  have hfb : ∀ i, blk FA' = some i → (O i ∨ w.heap.size ≤ i) ∧ i ≠ r ∧ i ≠ g ∧ i ≠ mb ∧ (blk FA = some i ∨ w.heap.size ≤ i) := by
    intro i hi
    rcases hb with e | ⟨j, hj, e⟩
    · rw [e] at hi
      obtain ⟨a1, a2, a3, a4⟩ := h.fb i hi
      exact ⟨Or.inl a1, a2, a3, a4, Or.inl hi⟩
    · rw [e] at hi
      obtain rfl : j = i := by injection hi
      exact ⟨Or.inr hj, by omega, by omega, by omega, Or.inr hj⟩
  have K2 := Kept.set w' r 1 (.slice FA' fs'.length fc')
  have KK : Kept w (w'.setCell ⟨r, 1, none⟩ (.slice FA' fs'.length fc')) (fun i => blk FA = some i ∨ i = r) := (k.more (fun i _ e => Or.inl e)).trans (K2.more (fun i _ e => Or.inr e)) (fun _ _ e => e)
  have hne := h.link.ne
  have ngb : ¬ (blk FA = some g ∨ g = r) := fun e => e.elim ng (fun e => hne e.symm)
  refine ⟨⟨?_, fun n hn => ?_, fun n hn => ?_, fun o => ?_, hne⟩, fun n hn j v hv => ?_, h.len, fun n hn => ?_, h.dn, fun n hn => ?_, fun n hn i hi => ?_, fun n hn => ?_, World.cell?_setCell_same _ _ _ hc, K2.ow hf (fun i hi e => (hfb i hi).2.1 e), fun i hi => ⟨(hfb i hi).1, (hfb i hi).2.1, (hfb i hi).2.2.1, (hfb i hi).2.2.2.1⟩, ?_, (KK.map h.mp (fun e => e.elim nm (fun e => h.mr.1 e))), ?_, fun o => ?_, ⟨Or.inl h.ors.1, Or.inl h.ors.2.1, Or.inl h.ors.2.2⟩, h.mr, h.mle, h.dm⟩
  · rw [World.cell?_setCell_other _ _ _ _ (ne_off (by omega)), k.cell (a := ⟨r, 0, none⟩) l1 nr]; exact h.link.c0
  · rw [KK.cell (a := ⟨g, n * 36 + 34, none⟩) l2 ngb]; exact h.link.ah n hn
  · rw [KK.cell (a := ⟨g, n * 36 + 35, none⟩) l2 ngb]; exact h.link.bh n hn
  · rw [KK.frozen (a := ⟨g, o, none⟩) l2 ngb]; exact h.link.gz o
  · rw [KK.cell (a := ⟨g, n * 36 + j, none⟩) l2 ngb]; exact h.sm n hn j v hv
  · rw [KK.cell (a := ⟨g, n * 36 + 32, none⟩) l2 ngb]; exact h.dc n hn
  · exact (KK.rd (h.dr n hn) (Nat.le_refl _) (fun i hi _ e => e.elim (h.da n hn i hi).2.2.2.2.1 (h.da n hn i hi).2.1)).more KK.size
  · obtain ⟨a1, a2, a3, a4, a5, a6⟩ := h.da n hn i hi
    refine ⟨Or.inl a1, a2, a3, a4, fun e => ?_, Nat.lt_of_lt_of_le a6 KK.size⟩
    rcases (hfb i e).2.2.2.2 with e1 | e1
    · exact a5 e1
    · omega
  · rw [KK.cell (a := ⟨g, n * 36 + 33, none⟩) l2 ngb]; exact h.hd n hn
  · rw [World.cell?_setCell_other _ _ _ _ (ne_off (by omega)), k.cell (a := ⟨r, 2, none⟩) l1 nr]; exact h.c2
  · rw [World.cell?_setCell_other _ _ _ _ (ne_off (by omega)), k.cell (a := ⟨r, 3, none⟩) l1 nr]; exact h.c3
  · rw [frozen_set, k.frozen (a := ⟨r, o, none⟩) l1 nr]; exact h.rz o
theorem size_setCells (b : Nat) : ∀ (vs : List Value) (o : Nat) (w : World), (w.setCells b o vs).heap.size = w.heap.size
  | [], _, w => rfl
  | v :: vs, o, w => by rw [World.setCells, size_setCells b vs (o + 1), World.size_setCell]
theorem setCells_at (w : World) (b o : Nat) (vs : List Value) (ht : w.there b o vs.length) {j : Nat} {v : Value} (hv : vs[j]? = some v) : (w.setCells b o vs).cell? ⟨b, o + j, none⟩ = some v :=
  World.rangeAt_setCells_same w b o vs ht j v hv
theorem setCells_out (w : World) (b o : Nat) (vs : List Value) {x : Nat} (h : x < o ∨ o + vs.length ≤ x) : (w.setCells b o vs).cell? ⟨b, x, none⟩ = w.cell? ⟨b, x, none⟩ :=
  World.cell?_setCells_out b vs o w ⟨b, x, none⟩ (fun _ _ => h)
theorem RowG.there (h : RowG w O r g M mb FA fc E D fs S ms sf ah bh) {n : Nat} (hn : n ≤ M) : w.there g (n * 36) 36 := by
  intro j hj
  refine ⟨?_, h.link.gz _⟩
  have hl := h.len n hn
  by_cases h32 : j < 32
  · rw [h.sm n hn j _ (List.getElem?_eq_getElem (by rw [bv_len]; omega))]; rfl
  · obtain rfl | rfl | rfl | rfl : j = 32 ∨ j = 33 ∨ j = 34 ∨ j = 35 := by omega
    · rw [h.dc n hn]; rfl
    · rw [h.hd n hn]; rfl
    · rw [h.link.ah n hn]; rfl
    · rw [h.link.bh n hn]; rfl
theorem ckL_at (e : Ent) (d : Sl) (a b : Nat) (h : e.sum.length = 32) : (ckL e d a b)[32]? = some (.slice d.a d.n d.c) ∧ (ckL e d a b)[33]? = some (.int .i64 (e.held : Nat)) ∧ (ckL e d a b)[34]? = some (.int .i64 (a : Nat)) ∧ (ckL e d a b)[35]? = some (.int .i64 (b : Nat)) ∧ ∀ j, j < 32 → (ckL e d a b)[j]? = (bv e.sum)[j]? := by
  unfold ckL
  have hl : (bv e.sum).length = 32 := by rw [bv_len]; exact h
  refine ⟨?_, ?_, ?_, ?_, fun j hj => ?_⟩
  iterate 4 (rw [List.getElem?_append_right (by omega), hl]; rfl)
  rw [List.getElem?_append_left (by omega)]
/-- a chunk is another one -/
theorem RowG.setE (h : RowG w O r g M mb FA fc E D fs S ms sf ah bh) (n : Nat) (hn : n ≤ M) (e : Ent) (d : Sl) (a b : Nat) (hs : e.sum.length = 32) (hdc : d.n ≤ d.c) (hdr : Rd w w.heap.size d.a d.n (bv e.data)) (hda : ∀ i, blk d.a = some i → O i ∧ i ≠ r ∧ i ≠ g ∧ i ≠ mb ∧ blk FA ≠ some i ∧ i < w.heap.size) (hdm : e.data.length ≤ 8192) :
    RowG (w.setCells g (n * 36) (ckL e d a b)) O r g M mb FA fc (updE E n e) (updE D n d) fs S ms sf (upd ah n a) (upd bh n b) := by
  obtain ⟨l1, l2, l3⟩ := h.lt
  have hcl := ckL_len e d a b hs
  have ht : w.there g (n * 36) (ckL e d a b).length := by rw [hcl]; exact h.there hn
  have K := kept_setCells g (ckL e d a b) (n * 36) w
  obtain ⟨k32, k33, k34, k35, kj⟩ := ckL_at e d a b hs
  have hne := h.link.ne
  have hz : ∀ p, (w.setCells g (n * 36) (ckL e d a b)).frozen? p = w.frozen? p := fun p => World.frozen?_setCells _ _ _ _ _
  have hsz : (w.setCells g (n * 36) (ckL e d a b)).heap.size = w.heap.size := size_setCells _ _ _ _
  refine ⟨⟨?_, fun m hm => ?_, fun m hm => ?_, fun o => by rw [hz]; exact h.link.gz o, hne⟩, fun m hm j v hv => ?_, fun m hm => ?_, fun m hm => ?_, fun m hm => ?_, fun m hm => ?_, fun m hm i hi => ?_, fun m hm => ?_, ?_, K.ow h.fo (fun i hi e => (h.fb i hi).2.2.1 e), h.fb, ?_, K.map h.mp h.mr.2, ?_, fun o => by rw [hz]; exact h.rz o, h.ors, h.mr, h.mle, fun m hm => ?_⟩
  · rw [K.cell (a := ⟨r, 0, none⟩) l1 hne]; exact h.link.c0
  · by_cases e1 : m = n
    · subst e1; rw [upd_same]; exact setCells_at w g _ _ ht k34
    · rw [upd_other _ _ e1, setCells_out _ _ _ _ (by rw [hcl]; omega)]; exact h.link.ah m hm
  · by_cases e1 : m = n
    · subst e1; rw [upd_same]; exact setCells_at w g _ _ ht k35
    · rw [upd_other _ _ e1, setCells_out _ _ _ _ (by rw [hcl]; omega)]; exact h.link.bh m hm
  · by_cases e1 : m = n
    · subst e1
      rw [updE_same] at hv
      have hj : j < 32 := by
        have h1 := (List.getElem?_eq_some_iff.1 hv).1
        rw [bv_len, hs] at h1; exact h1
      exact setCells_at w g _ _ ht ((kj j hj).trans hv)
    · rw [updE_other _ _ e1] at hv
      have hj : j < 32 := by
        have h1 := (List.getElem?_eq_some_iff.1 hv).1
        rw [bv_len, h.len m hm] at h1; exact h1
      rw [setCells_out _ _ _ _ (by rw [hcl]; omega)]; exact h.sm m hm j v hv
  · by_cases e1 : m = n
    · subst e1; rw [updE_same]; exact hs
    · rw [updE_other _ _ e1]; exact h.len m hm
  · by_cases e1 : m = n
    · subst e1; rw [updE_same]; exact setCells_at w g _ _ ht k32
    · rw [updE_other _ _ e1, setCells_out _ _ _ _ (by rw [hcl]; omega)]; exact h.dc m hm
  · by_cases e1 : m = n
    · subst e1; rw [updE_same]; exact hdc
    · rw [updE_other _ _ e1]; exact h.dn m hm
  · by_cases e1 : m = n
    · subst e1; rw [updE_same, updE_same]; exact (K.rd hdr (Nat.le_refl _) (fun i hi _ e => (hda i hi).2.2.1 e)).more K.size
    · rw [updE_other _ _ e1, updE_other _ _ e1]; exact (K.rd (h.dr m hm) (Nat.le_refl _) (fun i hi _ e => (h.da m hm i hi).2.2.1 e)).more K.size
  · rw [hsz]
    by_cases e1 : m = n
    · subst e1; rw [updE_same] at hi; exact hda i hi
    · rw [updE_other _ _ e1] at hi; exact h.da m hm i hi
  · by_cases e1 : m = n
    · subst e1; rw [updE_same]; exact setCells_at w g _ _ ht k33
    · rw [updE_other _ _ e1, setCells_out _ _ _ _ (by rw [hcl]; omega)]; exact h.hd m hm
  · rw [K.cell (a := ⟨r, 1, none⟩) l1 hne]; exact h.c1
  · rw [K.cell (a := ⟨r, 2, none⟩) l1 hne]; exact h.c2
  · rw [K.cell (a := ⟨r, 3, none⟩) l1 hne]; exact h.c3
  · by_cases e1 : m = n
    · subst e1; rw [updE_same]; exact hdm
    · rw [updE_other _ _ e1]; exact h.dm m hm
end
end Go.Proofs.Ytnmifaohmafobaa.st
