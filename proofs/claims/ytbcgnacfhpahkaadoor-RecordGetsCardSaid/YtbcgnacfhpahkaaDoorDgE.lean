/- A hash that a call made: what it has; copy into cells; Write. -/
import Derived.Test.YtbcgnacfhpahkaaDoorDgD
import Derived.Deep.RegionLaw
namespace Go.Proofs.YtbcgnacfhpahkaaDoor.dg
open Go.RowKit Mem DM
set_option linter.unusedVariables false
theorem blk64_app (l r : List UInt8) (k : Nat) (h : 64 * (k + 1) ≤ l.length) : blk64 (l ++ r) k = blk64 l k := by
  unfold blk64
  rw [List.drop_append_of_le_length (by omega), List.take_append_of_le_length (by rw [List.length_drop]; omega)]
theorem stN_app (l r : List UInt8) : ∀ k, 64 * k ≤ l.length → stN (l ++ r) k = stN l k
  | 0, _ => rfl
  | k + 1, h => by rw [stN, stN, stN_app l r k (by omega), blk64_app l r k h]
/-- bytes laid into bytes -/
def lay (L ys : List UInt8) (k : Nat) : List UInt8 := L.take k ++ ys ++ L.drop (k + ys.length)
theorem lay_len (L ys : List UInt8) (k : Nat) (h : k + ys.length ≤ L.length) : (lay L ys k).length = L.length := by simp [lay]; omega
theorem range_lay {w : World} {b o k : Nat} {L ys : List UInt8} (h : w.rangeAt b o (bv L)) (ht : w.there b o L.length) (hk : k + ys.length ≤ L.length) : (w.setCells b (o + k) (bv ys)).rangeAt b o (bv (lay L ys k)) := by
  intro j v hj
  have hjl : j < L.length := by
    have := (List.getElem?_eq_some_iff.1 hj).1
    rw [bv_len, lay_len L ys k hk] at this
    exact this
  have hths : ∀ i, i < (bv ys).length → (w.cell? ⟨b, o + k + i, none⟩).isSome = true := fun i hi => by
    rw [bv_len] at hi
    have := (ht (k + i) (by omega)).1
    rw [← Nat.add_assoc] at this
    exact this
  have hv : (bv (lay L ys k))[j]? = (if j < k then (bv L)[j]? else if j < k + ys.length then (bv ys)[j - k]? else (bv L)[j]?) := by
    unfold lay
    rw [bv_app, bv_app, bv_take, bv_drop]
    have hkl : (List.take k (bv L)).length = k := by rw [List.length_take, bv_len]; omega
    by_cases h1 : j < k
    · rw [if_pos h1, List.append_assoc, List.getElem?_append_left (by omega), List.getElem?_take_of_lt h1]
    · rw [if_neg h1, List.append_assoc, List.getElem?_append_right (by omega), hkl]
      by_cases h2 : j < k + ys.length
      · rw [if_pos h2, List.getElem?_append_left (by rw [bv_len]; omega)]
      · rw [if_neg h2, List.getElem?_append_right (by rw [bv_len]; omega), bv_len, List.getElem?_drop]
        congr 1
        omega
  rw [hv] at hj
  by_cases h1 : j < k
  · rw [if_pos h1] at hj
    rw [World.cell?_setCells_out b (bv ys) (o + k) w ⟨b, o + j, none⟩ (fun _ _ => Or.inl (by show o + j < o + k; omega))]
    exact h j v hj
  · rw [if_neg h1] at hj
    by_cases h2 : j < k + ys.length
    · rw [if_pos h2] at hj
      have := World.cell?_setCells_in b (bv ys) (o + k) w hths (j - k) (by rw [bv_len]; omega)
      rw [show o + k + (j - k) = o + j by omega] at this
      rw [this, ← hj, List.getElem?_eq_getElem]
    · rw [if_neg h2] at hj
      rw [World.cell?_setCells_out b (bv ys) (o + k) w ⟨b, o + j, none⟩ (fun _ _ => Or.inr (by rw [bv_len]; show o + k + ys.length ≤ o + j; omega))]
      exact h j v hj
/-- a hash at block b to which l was written -/
structure HashAt (w : World) (b : Nat) (l : List UInt8) : Prop where
  c0 : w.cell? ⟨b, 0, none⟩ = some (.bool true)
  st : w.rangeAt b 1 (wvs (stL (stN l (l.length / 64))))
  stt : w.there b 1 8
  la : ∃ L : List UInt8, L.length = 64 ∧ w.rangeAt b 9 (bv L) ∧ L.take (l.length % 64) = l.drop (64 * (l.length / 64))
  lat : w.there b 9 64
  sz : w.cell? ⟨b, 73, none⟩ = some (.int .u64 l.length)
  szf : w.frozen? ⟨b, 73, none⟩ = false
  lt : b < w.heap.size
  len : l.length ≤ 1099511627776
theorem HashAt.below {w w' : World} {b : Nat} {l : List UInt8} (h : HashAt w b l) (hb : Below w.heap.size w w') : HashAt w' b l := by
  obtain ⟨L, h1, h2, h3⟩ := h.la
  exact ⟨(hb.cell (p := ⟨b, 0, none⟩) h.lt).trans h.c0, range_below h.st hb h.lt, there_below h.stt hb h.lt h.lt, ⟨L, h1, range_below h2 hb h.lt, h3⟩, there_below h.lat hb h.lt h.lt, (hb.cell (p := ⟨b, 73, none⟩) h.lt).trans h.sz, (World.frozen?_of_block (w := w) (hb.block b h.lt)).trans h.szf, Nat.lt_of_lt_of_le h.lt hb.size, h.len⟩
theorem HashAt.keep {w w' : World} {b b2 : Nat} {l : List UInt8} (h : HashAt w b l) (hk : Keep1 w w' b2) (hne : b ≠ b2) : HashAt w' b l := by
  obtain ⟨L, h1, h2, h3⟩ := h.la
  exact ⟨(hk.cell (a := ⟨b, 0, none⟩) h.lt hne).trans h.c0, range_keep h.st hk h.lt hne, there_keep h.stt hk h.lt hne, ⟨L, h1, range_keep h2 hk h.lt hne, h3⟩, there_keep h.lat hk h.lt hne, (hk.cell (a := ⟨b, 73, none⟩) h.lt hne).trans h.sz, (World.frozen?_of_block (w := w) (hk.block b h.lt hne)).trans h.szf, Nat.lt_of_lt_of_le h.lt hk.size, h.len⟩
/-- copy into cells that are there, as a step of a region that draws its order -/
theorem step_copyc {ops : Array Oper} {o : Oper} {a : Act} {w : World} {K : Act → World → Prop} {Q : Exit → Act → World → Prop} {F : Prop} (hgd : o.guard = none) (x y : Operand)
    (ho : o.op = .call { callee := .builtin .copy, args := #[x, y], argTypes := #[24, 24] }) {b o2 d dc B m c2 k : Nat} {A2 : Option Addr} {l : List UInt8} (hr : Rd w B A2 m (bv l)) (hx : a.eval x = .slice (some ⟨b, o2, none⟩) d dc)
    (hy : a.eval y = .slice A2 m c2) (hm : 0 < m) (hk : k = Nat.min m d) (ht : w.there b o2 k) (h : K (a.put o.dst (goInt k)) (w.setCells b o2 (bv (l.take k)))) :
    if Region.wanted o (yielded ops a.tmps) = true then Oper.wp Tryd.prog o a w K Q else F := by
  have hw : Region.wanted o (yielded ops a.tmps) = true := by simp [Region.wanted, hgd]
  rw [if_pos hw]
  have hl : l.length = m := by rw [← bv_len, hr.len]
  obtain ⟨bb, oo, rfl, _, hc⟩ := hr.addr hm
  have hkm : k ≤ m := by rw [hk]; exact Nat.min_le_left _ _
  have hlen : (bv (l.take k)).length = k := by rw [bv_len, List.length_take]; omega
  have hrun := run_copy_cells (P := Tryd.prog) w 24 24 o.type 5 b o2 d dc ⟨bb, oo, none⟩ m c2 (bv (l.take k)) Tryd.underlying24 (by kernel_rfl) (by rw [hlen]; exact hk)
    (fun j v hj => by
      have hjk : j < k := by have := (List.getElem?_eq_some_iff.1 hj).1; omega
      rw [Addr.add_mid, hc j (by omega), ← hj, bv_take, List.getElem?_take_of_lt hjk])
    (fun j hj => by rw [hlen] at hj; exact (ht j hj).1) (fun j hj => by rw [hlen] at hj; exact (ht j hj).2) (bv_one _)
  rw [hlen] at hrun
  unfold Oper.wp execOp
  simp only [ho, resolve, invoke, builtin, Sem.run_bind, Sem.run_pure, Result.andThen_ok, List.map_toArray, List.map_cons, List.map_nil, hx, hy, hrun]
  exact h
end Go.Proofs.YtbcgnacfhpahkaaDoor.dg
