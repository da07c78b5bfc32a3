/- A store in memory: the map of its digests, its row, itself. -/
import Derived.Test.YtnmifaohmafobaaStA
import Derived.Maps.OwnSet
import Derived.Maps.OwnOps
import Derived.DeepKeys4
import Derived.Deep.MidRow
import Derived.ProofKit
namespace Go.Proofs.Ytnmifaohmafobaa.st
open Go.RowKit Mem SM
open Go.Maps (Keyed)
set_option linter.unusedVariables false
variable {w w' : World}
theorem laidOut : laidOutB Try.prog = true := by kernel_rfl
theorem u8ty : Ty1 Try.prog 32 5 (.int .u8 0) 1 :=
  ⟨Try.underlying32, by
    have h : (Try.prog.info? 5).map (fun i => (i.zero, i.size, i.bytes)) = some (some (.int .u8 0), 1, 1) := by kernel_rfl
    obtain ⟨i, h1, h2, h3, h4⟩ := info_parts h
    exact ⟨i, h1, h2, h3, h4⟩, rfl⟩
theorem i64ty : Ty1 Try.prog 75 3 (.int .i64 0) 8 :=
  ⟨Try.underlying75, by
    have h : (Try.prog.info? 3).map (fun i => (i.zero, i.size, i.bytes)) = some (some (.int .i64 0), 1, 8) := by kernel_rfl
    obtain ⟨i, h1, h2, h3, h4⟩ := info_parts h
    exact ⟨i, h1, h2, h3, h4⟩, rfl⟩
theorem sumKeyed : Keyed Try.prog 40 := Keyed.of_law (deep_law_laid laidOut (m := 3) (by omega) (by decide +kernel) (by decide +kernel) (by decide +kernel))
theorem zero_int (w : World) : (zeroValue 3).run Try.prog w = .ok (.int .i64 0) w := by kernel_rfl
theorem mapM_some {α β : Type} {f : α → Option β} {g : α → β} : ∀ l : List α, (∀ i ∈ l, f i = some (g i)) → l.mapM f = some (l.map g)
  | [], _ => rfl
  | x :: l, h => by
    rw [List.mapM_cons, h x (by simp), mapM_some l (fun i hi => h i (by simp [hi]))]
    rfl
/-- a digest as a map's key -/
def kl (s : List UInt8) : Lit := .string (keyBytes ((List.range 32).map fun i => [Lit.int .u8 ((s.getD i 0).toNat : Int)]).flatten)
theorem key_of (s : List UInt8) (hs : s.length = 32) : keyOf Try.prog 40 (.agg (bv s).toArray) = some (kl s) := by
  have h1 : Try.prog.keyType 40 = true := by kernel_rfl
  have h2 : Try.prog.cellsOf 40 = 32 := by kernel_rfl
  have h3 : Try.prog.cellsOf 5 = 1 := by kernel_rfl
  have hf : (Value.agg (bv s).toArray).formed Try.prog 40 = true := by
    unfold Value.formed
    rw [Try.underlying40]
    simp [h2, bv_len, hs]
  unfold keyOf
  rw [Try.underlying40]
  simp only [h1, hf, Bool.and_self, if_true]
  have hk : Try.prog.keyLits (Try.prog.types.size + 1) 40 (Value.agg (bv s).toArray).cells.toList = some ((List.range 32).map fun i => [Lit.int .u8 ((s.getD i 0).toNat : Int)]).flatten := by
    unfold Program.keyLits
    rw [Try.underlying40]
    simp only [Value.cells, h2, bv_len, hs, if_true]
    rw [mapM_some (g := fun i => [Lit.int .u8 ((s.getD i 0).toNat : Int)])]
    · rfl
    · intro i hi
      have hi := List.mem_range.1 hi
      have hl : i < s.length := by omega
      rw [h3, Nat.mul_one]
      have e : ((bv s).drop i).take 1 = [.int .u8 ((s[i]).toNat : Int)] := by
        rw [List.take_one, List.head?_drop, bv_at s i hl]; rfl
      have hsz : Try.prog.types.size = (Try.prog.types.size - 1) + 1 := by
        have : 0 < Try.prog.types.size := by decide +kernel
        omega
      rw [e, hsz]
      unfold Program.keyLits
      rw [Try.underlying5]
      have hlt := (s[i]).toNat_lt
      have hg : s.getD i 0 = s[i] := by simp [hl]
      rw [hg]
      simp [Lit.wf, IntKind.min, IntKind.max, IntKind.signed, IntKind.bits]
      omega
  rw [hk]
  rfl
theorem kl_inj {s t : List UInt8} (hs : s.length = 32) (ht : t.length = 32) (h : kl s = kl t) : s = t := by
  have := sumKeyed.inj (key_of s hs) (h ▸ key_of t ht)
  injection this with e
  exact bv_inj (by simpa using congrArg Array.toList e)
theorem kl_lit {s : List UInt8} (hs : s.length = 32) : WideAt.IsKeyLit (kl s) := sumKeyed.key (key_of s hs)
abbrev DD := DataW Unit
def num (n : Nat) : DD := .lit (.int .i64 (n : Nat))
/-- block mb is a map of the digests of these numbers -/
def MapB (w : World) (mb : Nat) (ns : List Nat) (sm : Nat → List UInt8) : Prop :=
  ∃ D : DD, w.ownsMap Try.prog 40 (plainElem Try.prog 3) mb ns.length D ∧ Maps.size D = ns.length ∧ (∀ n ∈ ns, D.atKey (kl (sm n)) (num 0) = num n) ∧
    ∀ s : List UInt8, s.length = 32 → (∀ n ∈ ns, sm n ≠ s) → D.atKey (kl s) (num 0) = num 0 ∧ Maps.has D (kl s) = false
theorem Kept.map {bad : Nat → Prop} {mb : Nat} {ns : List Nat} {sm : Nat → List UInt8} (k : Kept w w' bad) (h : MapB w mb ns sm) (hb : ¬ bad mb) : MapB w' mb ns sm := by
  obtain ⟨D, h1, h2⟩ := h
  have hlt := h1.lt
  obtain ⟨es, clock, he, r⟩ := h1
  exact ⟨D, ⟨es, clock, (k.block mb hlt hb).trans he, r⟩, h2⟩
theorem Kept.ow {bad : Nat → Prop} {base : Nat} {E : TypeId} {A : Option Addr} {n k : Nat} {xs : List Value} (hk : Kept w w' bad) (h : Ow w base E A n k xs) (hb : ∀ i, blk A = some i → ¬ bad i) : Ow w' base E A n k xs := by
  refine ⟨h.1, ?_⟩
  rcases h.2 with h0 | ⟨g, cap, cur, hv, hbase, hg, rest⟩
  · exact .inl h0
  · refine .inr ⟨g, cap, cur, hv, hbase, ?_, rest⟩
    have hlt : g < w.heap.size := by
      apply Nat.lt_of_not_le
      intro hle
      rw [Array.getElem?_eq_none hle] at hg
      cases hg
    have hA : blk A = some g := by
      injection hv with e1 e2 e3
      rw [e1]; rfl
    rw [hk.block g hlt (hb g hA)]
    exact hg
/-- numbers as values -/
def nv (l : List Nat) : List Value := l.map fun n => .int .i64 (n : Nat)
theorem nv_len (l : List Nat) : (nv l).length = l.length := by simp [nv]
structure Sl where
  a : Option Addr
  n : Nat
  c : Nat
/-- a row of chunks: E n is the chunk of number n, D n its bytes' slice; ns stand in the ring, fs are free -/
structure RowB (w : World) (O : Nat → Prop) (r g M mb : Nat) (FA : Option Addr) (fc : Nat) (E : Nat → Ent) (D : Nat → Sl) (ns fs : List Nat) : Prop where
  link : ∃ ah bh, LinkB w r g M ah bh ∧ Chain ah bh 0 ns
  sm : ∀ n, n ≤ M → w.rangeAt g (n * 36) (bv (E n).sum)
  len : ∀ n, n ≤ M → (E n).sum.length = 32
  dc : ∀ n, n ≤ M → w.cell? ⟨g, n * 36 + 32, none⟩ = some (.slice (D n).a (D n).n (D n).c)
  dn : ∀ n, n ≤ M → (D n).n ≤ (D n).c
  dr : ∀ n, n ≤ M → Rd w w.heap.size (D n).a (D n).n (bv (E n).data)
  da : ∀ n, n ≤ M → ∀ i, blk (D n).a = some i → O i ∧ i ≠ r ∧ i ≠ g ∧ i ≠ mb ∧ blk FA ≠ some i ∧ i < w.heap.size
  hd : ∀ n, n ≤ M → w.cell? ⟨g, n * 36 + 33, none⟩ = some (.int .i64 ((E n).held : Nat))
  c1 : w.cell? ⟨r, 1, none⟩ = some (.slice FA fs.length fc)
  fo : Ow w 0 3 FA fs.length fc (nv fs)
  fb : ∀ i, blk FA = some i → O i ∧ i ≠ r ∧ i ≠ g ∧ i ≠ mb
  c2 : w.cell? ⟨r, 2, none⟩ = some (.map (some mb))
  mp : MapB w mb ns (fun n => (E n).sum)
  c3 : w.cell? ⟨r, 3, none⟩ = some (.int .i64 (total (ns.map E) : Nat))
  rz : ∀ o, w.frozen? ⟨r, o, none⟩ = false
  pm : (ns ++ fs).Perm (List.range' 1 M)
  dj : (sums (ns.map E)).Nodup
  ors : O r ∧ O g ∧ O mb
  mr : mb ≠ r ∧ mb ≠ g
  mle : 1 ≤ M ∧ M ≤ 64
  dm : ∀ n, n ≤ M → (E n).data.length ≤ 8192
section
variable {O : Nat → Prop} {r g M mb fc : Nat} {FA : Option Addr} {E : Nat → Ent} {D : Nat → Sl} {ns fs : List Nat}
theorem RowB.lt (h : RowB w O r g M mb FA fc E D ns fs) : r < w.heap.size ∧ g < w.heap.size ∧ mb < w.heap.size := by
  obtain ⟨ah, bh, hl, _⟩ := h.link
  obtain ⟨DM, hm, _⟩ := h.mp
  exact ⟨hl.lt.1, hl.lt.2, hm.lt⟩
theorem RowB.mem (h : RowB w O r g M mb FA fc E D ns fs) {n : Nat} (hn : n ∈ ns ∨ n ∈ fs) : 1 ≤ n ∧ n ≤ M := by
  have := h.pm.mem_iff.1 (List.mem_append.2 hn)
  have := List.mem_range'_1.1 this
  omega
theorem RowB.nodup (h : RowB w O r g M mb FA fc E D ns fs) : (ns ++ fs).Nodup := h.pm.symm.nodup (List.nodup_range' (step := 1) (by omega))
theorem RowB.ring (h : RowB w O r g M mb FA fc E D ns fs) : (0 :: ns).Nodup := by
  refine List.nodup_cons.2 ⟨fun e => ?_, (List.nodup_append.1 h.nodup).1⟩
  have := h.mem (Or.inl e)
  omega
theorem RowB.count (h : RowB w O r g M mb FA fc E D ns fs) : ns.length + fs.length = M := by
  have := h.pm.length_eq
  simpa using this
theorem LinkB.kept {ah bh : Nat → Nat} {bad : Nat → Prop} (h : LinkB w r g M ah bh) (k : Kept w w' bad) (h1 : ¬ bad r) (h2 : ¬ bad g) : LinkB w' r g M ah bh :=
  ⟨by rw [k.cell (a := ⟨r, 0, none⟩) h.lt.1 h1]; exact h.c0, fun n hn => by rw [k.cell (a := ⟨g, n * 36 + 34, none⟩) h.lt.2 h2]; exact h.ah n hn, fun n hn => by rw [k.cell (a := ⟨g, n * 36 + 35, none⟩) h.lt.2 h2]; exact h.bh n hn,
   fun o => by rw [k.frozen (a := ⟨g, o, none⟩) h.lt.2 h2]; exact h.gz o, h.ne⟩
/-- what happens elsewhere changes no row -/
theorem RowB.kept {bad : Nat → Prop} (h : RowB w O r g M mb FA fc E D ns fs) (k : Kept w w' bad) (hb : ∀ i, i < w.heap.size → O i → ¬ bad i) : RowB w' O r g M mb FA fc E D ns fs := by
  obtain ⟨l1, l2, l3⟩ := h.lt
  obtain ⟨o1, o2, o3⟩ := h.ors
  have hr := hb _ l1 o1
  have hg := hb _ l2 o2
  obtain ⟨ah, bh, hl, hc⟩ := h.link
  refine ⟨⟨ah, bh, hl.kept k hr hg, hc⟩, fun n hn j v hv => ?_, h.len, fun n hn => ?_, h.dn, fun n hn => ?_, fun n hn i hi => (let ⟨a1, a2, a3, a4, a5, a6⟩ := h.da n hn i hi; ⟨a1, a2, a3, a4, a5, Nat.lt_of_lt_of_le a6 k.size⟩), fun n hn => ?_, ?_, k.ow h.fo (fun i hi => hb i (h.fo.blk_lt i hi).2 (h.fb i hi).1), h.fb, ?_, k.map h.mp (hb _ l3 o3), ?_, fun o => ?_, h.pm, h.dj, h.ors, h.mr, h.mle, h.dm⟩
  · rw [k.cell (a := ⟨g, n * 36 + j, none⟩) l2 hg]; exact h.sm n hn j v hv
  · rw [k.cell (a := ⟨g, n * 36 + 32, none⟩) l2 hg]; exact h.dc n hn
  · exact (k.rd (h.dr n hn) (Nat.le_refl _) (fun i hi hlt => hb i hlt (h.da n hn i hi).1)).more k.size
  · rw [k.cell (a := ⟨g, n * 36 + 33, none⟩) l2 hg]; exact h.hd n hn
  · rw [k.cell (a := ⟨r, 1, none⟩) l1 hr]; exact h.c1
  · rw [k.cell (a := ⟨r, 2, none⟩) l1 hr]; exact h.c2
  · rw [k.cell (a := ⟨r, 3, none⟩) l1 hr]; exact h.c3
  · rw [k.frozen (a := ⟨r, o, none⟩) l1 hr]; exact h.rz o
theorem RowB.own {O' : Nat → Prop} (h : RowB w O r g M mb FA fc E D ns fs) (ho : ∀ i, O i → O' i) : RowB w O' r g M mb FA fc E D ns fs :=
  ⟨h.link, h.sm, h.len, h.dc, h.dn, h.dr, fun n hn i hi => ⟨ho i (h.da n hn i hi).1, (h.da n hn i hi).2⟩, h.hd, h.c1, h.fo, fun i hi => ⟨ho i (h.fb i hi).1, (h.fb i hi).2⟩, h.c2, h.mp, h.c3, h.rz, h.pm, h.dj, ⟨ho _ h.ors.1, ho _ h.ors.2.1, ho _ h.ors.2.2⟩, h.mr, h.mle, h.dm⟩
end
/-- a store with these chunks -/
structure StoreB (w : World) (O : Nat → Prop) (s M R : Nat) (L : List Ent) : Prop where
  row : ∃ r g mb FA fc E D ns fs, RowB w (fun i => O i ∧ i ≠ s) r g M mb FA fc E D ns fs ∧ L = ns.map E ∧ w.cell? ⟨s, 0, none⟩ = some (.pointer (some ⟨r, 0, none⟩))
  c1 : w.cell? ⟨s, 1, none⟩ = some (.int .i64 (M : Nat))
  c2 : w.cell? ⟨s, 2, none⟩ = some (.int .i64 (R : Nat))
  os : O s
  few : total L ≤ R
  rle : 1 ≤ R ∧ R ≤ 8192
theorem StoreB.kept {O : Nat → Prop} {s M R : Nat} {L : List Ent} {bad : Nat → Prop} (h : StoreB w O s M R L) (k : Kept w w' bad) (hb : ∀ i, i < w.heap.size → O i → ¬ bad i) : StoreB w' O s M R L := by
  obtain ⟨r, g, mb, FA, fc, E, D, ns, fs, h1, h2, h3⟩ := h.row
  have hl := cell_lt h3
  have hs := hb _ hl h.os
  exact ⟨⟨r, g, mb, FA, fc, E, D, ns, fs, h1.kept k (fun i hi ho => hb i hi ho.1), h2, by rw [k.cell (a := ⟨s, 0, none⟩) hl hs]; exact h3⟩, by rw [k.cell (a := ⟨s, 1, none⟩) hl hs]; exact h.c1, by rw [k.cell (a := ⟨s, 2, none⟩) hl hs]; exact h.c2, h.os, h.few, h.rle⟩
theorem StoreB.own {O O' : Nat → Prop} {s M R : Nat} {L : List Ent} (h : StoreB w O s M R L) (ho : ∀ i, O i → O' i) : StoreB w O' s M R L := by
  obtain ⟨r, g, mb, FA, fc, E, D, ns, fs, h1, h2⟩ := h.row
  exact ⟨⟨r, g, mb, FA, fc, E, D, ns, fs, h1.own (fun i h => ⟨ho i h.1, h.2⟩), h2⟩, h.c1, h.c2, ho _ h.os, h.few, h.rle⟩
theorem StoreB.again {O O' O1 : Nat → Prop} {s M R : Nat} {L L' : List Ent} {bad : Nat → Prop} (h : StoreB w O s M R L) {r g mb fc' : Nat} {FA' : Option Addr} {E' : Nat → Ent} {D' : Nat → Sl} {ns fs' : List Nat} (h0 : w.cell? ⟨s, 0, none⟩ = some (.pointer (some ⟨r, 0, none⟩)))
    (hB : RowB w' O1 r g M mb FA' fc' E' D' ns fs') (ho1 : ∀ i, O1 i → O' i ∧ i ≠ s) (hL : L' = ns.map E') (k : Kept w w' bad) (hb : ¬ bad s) (ho : O' s) (hT : total L' ≤ R) : StoreB w' O' s M R L' := by
  have hl := cell_lt h0
  exact ⟨⟨r, g, mb, FA', fc', E', D', ns, fs', hB.own ho1, hL, by rw [k.cell (a := ⟨s, 0, none⟩) hl hb]; exact h0⟩, by rw [k.cell (a := ⟨s, 1, none⟩) hl hb]; exact h.c1, by rw [k.cell (a := ⟨s, 2, none⟩) hl hb]; exact h.c2, ho, hT, h.rle⟩
theorem StoreB.below {O : Nat → Prop} {s M R : Nat} {L : List Ent} (h : StoreB w O s M R L) (k : Below w.heap.size w w') : StoreB w' O s M R L :=
  h.kept (Kept.ofBelow k) (fun i hi _ hn => by omega)
theorem RowB.below {O : Nat → Prop} {r g M mb fc : Nat} {FA : Option Addr} {E : Nat → Ent} {D : Nat → Sl} {ns fs : List Nat} (h : RowB w O r g M mb FA fc E D ns fs) (k : Below w.heap.size w w') : RowB w' O r g M mb FA fc E D ns fs :=
  h.kept (Kept.ofBelow k) (fun i hi _ hn => by omega)
/-- no store: nil, or a zero one -/
def NoStore (w : World) (v : Value) : Prop := v = .pointer none ∨ ∃ c, v = .pointer (some ⟨c, 0, none⟩) ∧ w.cell? ⟨c, 0, none⟩ = some (.pointer none)
theorem made_no (v : Value) (w : World) (h : NoStore w v) :
    Calls Try.prog 41 #[v] w fun e w' => e = .returned (.bool false) ∧ w = w' := by
  rcases h with rfl | ⟨c, rfl, h⟩
  all_goals
    go_enter Try.func41, Try.ntmps41
    go_wp2_with fail
    go_ret
    exact ⟨rfl, rfl⟩
theorem made_yes (s r : Nat) (w : World) (h : w.cell? ⟨s, 0, none⟩ = some (.pointer (some ⟨r, 0, none⟩))) :
    Calls Try.prog 41 #[.pointer (some ⟨s, 0, none⟩)] w fun e w' => e = .returned (.bool true) ∧ w = w' := by
  go_enter Try.func41, Try.ntmps41
  go_wp2_with fail
  go_ret
  exact ⟨rfl, rfl⟩
end Go.Proofs.Ytnmifaohmafobaa.st
