/- A slice of calls of a cutter, as an argument. -/
import Derived.Test.YtjmgokjflfhohaaChG
import Derived.OpenShut
import Derived.ChangeOld
import Derived.ProofKit
namespace Go.Proofs.Ytjmgokjflfhohaa.ch
open Go.RowKit Go.ChangeShapes Go.WideShapes Go.ChangeAt Mem rb
set_option linter.unusedVariables false
/-- calls as a slice of structs shows them -/
structure Dos (w : World) (B : Nat) (A : Option Addr) (n : Nat) (ds : List (Int × List UInt8)) : Prop where
  len : ds.length = n
  addr : 0 < n → ∃ b off, A = some ⟨b, off, none⟩ ∧ b < B ∧ ∀ i, (h : i < ds.length) → ∃ Ai mi ki, w.cell? ⟨b, off + 2 * i, none⟩ = some (.int .i64 (ds[i]).1) ∧ w.cell? ⟨b, off + 2 * i + 1, none⟩ = some (.slice Ai mi ki) ∧ mi ≤ ki ∧ Rd w B Ai mi (bv (ds[i]).2)
theorem Dos.below {w w' : World} {B B' n : Nat} {A : Option Addr} {ds : List (Int × List UInt8)} (h : Dos w B A n ds) (hb : Below B' w w') (hB : B ≤ B') : Dos w' B A n ds :=
  ⟨h.len, fun hn => by
    obtain ⟨b, off, e, hl, hc⟩ := h.addr hn
    refine ⟨b, off, e, hl, fun i hi => ?_⟩
    obtain ⟨Ai, mi, ki, c0, c1, hk, hr⟩ := hc i hi
    exact ⟨Ai, mi, ki, (hb.cell (p := ⟨b, off + 2 * i, none⟩) (Nat.lt_of_lt_of_le hl hB)).trans c0, (hb.cell (p := ⟨b, off + 2 * i + 1, none⟩) (Nat.lt_of_lt_of_le hl hB)).trans c1, hk, hr.below hb hB⟩⟩
theorem two_cells {w : World} {base : Nat} {a : Addr} {cs : List Value} (h : w.cells? base a 2 = some cs) : ∃ c0 c1, cs = [c0, c1] ∧ w.cell? (a.add 0) = some c0 ∧ w.cell? (a.add 1) = some c1 := by
  unfold World.cells? at h
  split at h
  · simp only [List.range_succ, List.range_zero, List.nil_append, List.cons_append, List.mapM_cons, List.mapM_nil] at h
    cases h0 : w.cell? (a.add 0) with
    | none => simp [h0] at h
    | some c0 =>
      cases h1 : w.cell? (a.add 1) with
      | none => simp [h0, h1] at h
      | some c1 =>
        simp [h0, h1] at h
        exact ⟨c0, c1, h.symm, rfl, rfl⟩
  · cases h
theorem open_dos {H : Type} {enc : TypeId × Value → H} {W : World} {fuel : Nat} {a : Option Addr} {n c : Nat} {x : DataW H × List MemPlace}
    (h : DataW.trod enc Try.prog W 0 (fun _ => true) true fuel 37 [.slice a n c] = some x) : ∃ ds, Dos W W.heap.size a n ds ∧ n ≤ c ∧ n ≤ 9223372036854775807 := by
  have hc2 : Try.prog.cellsOf 42 = 2 := by kernel_rfl
  have hci : Try.prog.cellsOf 3 = 1 := by kernel_rfl
  have hcs : Try.prog.cellsOf 23 = 1 := by kernel_rfl
  rcases DataW.trod_slice Try.underlying37 h with ⟨e, _⟩ | ⟨ad, len, cap, elems, rest, m, _, e, _, _, hl, hmx, hlen, hel, _⟩
  · injection e with e _
    injection e with e1 e2 e3
    subst e1 e2 e3
    exact ⟨[], ⟨rfl, fun hn => by omega⟩, Nat.le_refl _, by omega⟩
  · injection e with e _
    injection e with e1 e2 e3
    subst e1 e2 e3
    have each : ∀ i, i < n → ∃ (op : Int) (Ai : Option Addr) (mi ki : Nat) (l : List UInt8), W.cell? (ad.add (2 * i)) = some (.int .i64 op) ∧ W.cell? (ad.add (2 * i + 1)) = some (.slice Ai mi ki) ∧ mi ≤ ki ∧ Rd W W.heap.size Ai mi (bv l) := by
      intro i hi
      have hE := hel i hi
      rw [hc2] at hE
      have hlt : i < elems.length := by omega
      rw [List.getElem?_eq_getElem hlt, Option.bind_eq_some_iff] at hE
      obtain ⟨cs, hcs2, ht⟩ := hE
      obtain ⟨c0, c1, rfl, k0, k1⟩ := two_cells hcs2
      obtain ⟨y0, y1, f, hx, _, u0, u1⟩ := trod_struct2 Try.underlying42 ht
      simp [hci, hcs] at u0 u1
      obtain ⟨op, e0, _, _⟩ := DataW.trod_int Try.underlying3 u0
      simp at e0
      subst e0
      have a0 : (ad.add (i * 2)).add 0 = ad.add (2 * i) := by simp [Addr.add, Nat.mul_comm]
      have a1 : (ad.add (i * 2)).add 1 = ad.add (2 * i + 1) := by rw [Addr.add_add, Nat.mul_comm]
      rw [a0] at k0
      rw [a1] at k1
      rcases open_ints Try.underlying23 Try.underlying5 (by kernel_rfl) u1 with ⟨e1, _⟩ | ⟨aa, ll, cc, zs, e1, _, hl1, hm1, hz1, _, hcell, hwz⟩
      · injection e1 with e1 _
        subst e1
        exact ⟨op, none, 0, 0, [], k0, k1, Nat.le_refl _, Rd.nil _ _ _⟩
      · injection e1 with e1 _
        subst e1
        obtain ⟨l, hl2⟩ := rd_bytes hl1 (by simpa using hz1) hcell hwz
        exact ⟨op, some aa, ll, cc, l, k0, k1, hl1, hl2⟩
    have pick : ∀ k, k ≤ n → ∃ ds : List (Int × List UInt8), ds.length = k ∧ ∀ i, (h : i < ds.length) → ∃ (Ai : Option Addr) (mi ki : Nat), W.cell? (ad.add (2 * i)) = some (.int .i64 (ds[i]).1) ∧ W.cell? (ad.add (2 * i + 1)) = some (.slice Ai mi ki) ∧ mi ≤ ki ∧ Rd W W.heap.size Ai mi (bv (ds[i]).2) := by
      intro k
      induction k with
      | zero => exact fun _ => ⟨[], rfl, fun i h => by cases h⟩
      | succ k ih =>
        intro hk
        obtain ⟨ds, hds, hi⟩ := ih (by omega)
        obtain ⟨op, Ai, mi, ki, l, q0, q1, q2, q3⟩ := each k (by omega)
        refine ⟨ds ++ [(op, l)], by simp [hds], fun i h => ?_⟩
        by_cases hik : i < ds.length
        · rw [List.getElem_append_left hik]
          exact hi i hik
        · have hki : i = k := by simp at h; omega
          subst hki
          rw [List.getElem_append_right (by omega)]
          simp only [hds, Nat.sub_self, List.getElem_cons_zero]
          exact ⟨Ai, mi, ki, q0, q1, q2, q3⟩
    obtain ⟨ds, hds, hi⟩ := pick n (Nat.le_refl _)
    refine ⟨ds, ⟨hds, fun hn => ?_⟩, hl, by unfold maxLen at hmx; omega⟩
    obtain ⟨b, off, spot⟩ := ad
    obtain ⟨_, _, _, h0, _⟩ := hi 0 (by omega)
    have hs : spot = none := by simpa [Addr.add] using World.cell?_spot h0
    subst hs
    refine ⟨b, off, rfl, cell_lt (o := off) (by simpa [Addr.add] using h0), fun i hlt => ?_⟩
    have := hi i hlt
    rw [Addr.add_lit, Addr.add_lit] at this
    exact this
end Go.Proofs.Ytjmgokjflfhohaa.ch
