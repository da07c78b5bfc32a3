/- A slice of calls of a store, as an argument; calls that are short enough. -/
import Derived.Test.YtnmifaohmafobaaStY
namespace Go.Proofs.Ytnmifaohmafobaa.st
open Go.RowKit Go.ChangeShapes Go.WideShapes Go.ChangeAt Mem Go.Deep
set_option linter.unusedVariables false
/-- calls as a slice of structs shows them -/
structure Dos (w : World) (B : Nat) (A : Option Addr) (n : Nat) (ds : List DoV) : Prop where
  len : ds.length = n
  addr : 0 < n → ∃ b off, A = some ⟨b, off, none⟩ ∧ b < B ∧ ∀ i, (h : i < ds.length) → ∃ Ai mi ki, w.cell? ⟨b, off + 4 * i, none⟩ = some (.int .i64 (ds[i]).op) ∧ w.cell? ⟨b, off + 4 * i + 1, none⟩ = some (.int .i64 (ds[i]).id) ∧ w.cell? ⟨b, off + 4 * i + 2, none⟩ = some (.slice Ai mi ki) ∧ w.cell? ⟨b, off + 4 * i + 3, none⟩ = some (.int .i64 (ds[i]).n) ∧ mi ≤ ki ∧ Rd w B Ai mi (bv (ds[i]).data)
theorem Dos.below {w w' : World} {B B' n : Nat} {A : Option Addr} {ds : List DoV} (h : Dos w B A n ds) (hb : Below B' w w') (hB : B ≤ B') : Dos w' B A n ds :=
  ⟨h.len, fun hn => by
    obtain ⟨b, off, e, hl, hc⟩ := h.addr hn
    refine ⟨b, off, e, hl, fun i hi => ?_⟩
    obtain ⟨Ai, mi, ki, c0, c1, c2, c3, hk, hr⟩ := hc i hi
    have hB2 := Nat.lt_of_lt_of_le hl hB
    exact ⟨Ai, mi, ki, (hb.cell (p := ⟨b, off + 4 * i, none⟩) hB2).trans c0, (hb.cell (p := ⟨b, off + 4 * i + 1, none⟩) hB2).trans c1, (hb.cell (p := ⟨b, off + 4 * i + 2, none⟩) hB2).trans c2, (hb.cell (p := ⟨b, off + 4 * i + 3, none⟩) hB2).trans c3, hk, hr.below hb hB⟩⟩
theorem four_cells {w : World} {base : Nat} {a : Addr} {cs : List Value} (h : w.cells? base a 4 = some cs) : ∃ c0 c1 c2 c3, cs = [c0, c1, c2, c3] ∧ w.cell? (a.add 0) = some c0 ∧ w.cell? (a.add 1) = some c1 ∧ w.cell? (a.add 2) = some c2 ∧ w.cell? (a.add 3) = some c3 := by
  unfold World.cells? at h
  split at h
  · simp only [List.range_succ, List.range_zero, List.nil_append, List.cons_append, List.mapM_cons, List.mapM_nil] at h
    cases h0 : w.cell? (a.add 0) with
    | none => simp [h0] at h
    | some c0 =>
      cases h1 : w.cell? (a.add 1) with
      | none => simp [h0, h1] at h
      | some c1 =>
        cases h2 : w.cell? (a.add 2) with
        | none => simp [h0, h1, h2] at h
        | some c2 =>
          cases h3 : w.cell? (a.add 3) with
          | none => simp [h0, h1, h2, h3] at h
          | some c3 =>
            simp [h0, h1, h2, h3] at h
            exact ⟨c0, c1, c2, c3, h.symm, rfl, rfl, rfl, rfl⟩
  · cases h
theorem open_dos {H : Type} {enc : TypeId × Value → H} {W : World} {fuel : Nat} {a : Option Addr} {n c : Nat} {x : DataW H × List MemPlace}
    (h : DataW.trod enc Try.prog W 0 (fun _ => true) true fuel 22 [.slice a n c] = some x) : ∃ ds, Dos W W.heap.size a n ds ∧ n ≤ c ∧ n ≤ 9223372036854775807 := by
  have hc2 : Try.prog.cellsOf 34 = 4 := by kernel_rfl
  have hci : Try.prog.cellsOf 3 = 1 := by kernel_rfl
  have hcs : Try.prog.cellsOf 32 = 1 := by kernel_rfl
  rcases DataW.trod_slice Try.underlying22 h with ⟨e, _⟩ | ⟨ad, len, cap, elems, rest, m, _, e, _, _, hl, hmx, hlen, hel, _⟩
  · injection e with e _
    injection e with e1 e2 e3
    subst e1 e2 e3
    exact ⟨[], ⟨rfl, fun hn => by omega⟩, Nat.le_refl _, by omega⟩
  · injection e with e _
    injection e with e1 e2 e3
    subst e1 e2 e3
    have each : ∀ i, i < n → ∃ (k : DoV) (Ai : Option Addr) (mi ki : Nat), W.cell? (ad.add (4 * i)) = some (.int .i64 k.op) ∧ W.cell? (ad.add (4 * i + 1)) = some (.int .i64 k.id) ∧ W.cell? (ad.add (4 * i + 2)) = some (.slice Ai mi ki) ∧ W.cell? (ad.add (4 * i + 3)) = some (.int .i64 k.n) ∧ mi ≤ ki ∧ Rd W W.heap.size Ai mi (bv k.data) := by
      intro i hi
      have hE := hel i hi
      rw [hc2] at hE
      have hlt : i < elems.length := by omega
      rw [List.getElem?_eq_getElem hlt, Option.bind_eq_some_iff] at hE
      obtain ⟨cs, hcs2, ht⟩ := hE
      obtain ⟨c0, c1, c2, c3, rfl, k0, k1, k2, k3⟩ := four_cells hcs2
      obtain ⟨xs, m, _, hx, _, hlen, hg⟩ := DataW.trod_struct Try.underlying34 ht
      match xs, hlen with
      | [y0, y1, y2, y3], _ =>
        have u0 := hg 0 _ rfl
        have u1 := hg 1 _ rfl
        have u2 := hg 2 _ rfl
        have u3 := hg 3 _ rfl
        simp [hci, hcs] at u0 u1 u2 u3
        obtain ⟨x0, e0, _, w0⟩ := DataW.trod_int Try.underlying3 u0
        obtain ⟨x1, e1, _, w1⟩ := DataW.trod_int Try.underlying3 u1
        obtain ⟨x3, e3, _, w3⟩ := DataW.trod_int Try.underlying3 u3
        simp at e0 e1 e3
        subst e0 e1 e3
        have a0 : (ad.add (i * 4)).add 0 = ad.add (4 * i) := by simp [Addr.add, Nat.mul_comm]
        have a1 : (ad.add (i * 4)).add 1 = ad.add (4 * i + 1) := by rw [Addr.add_add, Nat.mul_comm]
        have a2 : (ad.add (i * 4)).add 2 = ad.add (4 * i + 2) := by rw [Addr.add_add, Nat.mul_comm]
        have a3 : (ad.add (i * 4)).add 3 = ad.add (4 * i + 3) := by rw [Addr.add_add, Nat.mul_comm]
        rw [a0] at k0
        rw [a1] at k1
        rw [a2] at k2
        rw [a3] at k3
        rcases open_ints Try.underlying32 Try.underlying5 (by kernel_rfl) u2 with ⟨e1, _⟩ | ⟨aa, ll, cc, zs, e1, _, hl1, hm1, hz1, _, hcell, hwz⟩
        · simp at e1
          subst e1
          exact ⟨⟨x0, x1, x3, []⟩, none, 0, 0, k0, k1, k2, k3, Nat.le_refl _, Rd.nil _ _ _⟩
        · simp at e1
          subst e1
          obtain ⟨l, hl2⟩ := rd_bytes hl1 (by simpa using hz1) hcell hwz
          exact ⟨⟨x0, x1, x3, l⟩, some aa, ll, cc, k0, k1, k2, k3, hl1, hl2⟩
    have pick : ∀ k, k ≤ n → ∃ ds : List DoV, ds.length = k ∧ ∀ i, (h : i < ds.length) → ∃ (Ai : Option Addr) (mi ki : Nat), W.cell? (ad.add (4 * i)) = some (.int .i64 (ds[i]).op) ∧ W.cell? (ad.add (4 * i + 1)) = some (.int .i64 (ds[i]).id) ∧ W.cell? (ad.add (4 * i + 2)) = some (.slice Ai mi ki) ∧ W.cell? (ad.add (4 * i + 3)) = some (.int .i64 (ds[i]).n) ∧ mi ≤ ki ∧ Rd W W.heap.size Ai mi (bv (ds[i]).data) := by
      intro k
      induction k with
      | zero => exact fun _ => ⟨[], rfl, fun i h => by cases h⟩
      | succ k ih =>
        intro hk
        obtain ⟨ds, hds, hi⟩ := ih (by omega)
        obtain ⟨dk, Ai, mi, ki, q0, q1, q2, q3, q4, q5⟩ := each k (by omega)
        refine ⟨ds ++ [dk], by simp [hds], fun i h => ?_⟩
        by_cases hik : i < ds.length
        · rw [List.getElem_append_left hik]
          exact hi i hik
        · have hki : i = k := by simp at h; omega
          subst hki
          rw [List.getElem_append_right (by omega)]
          simp only [hds, Nat.sub_self, List.getElem_cons_zero]
          exact ⟨Ai, mi, ki, q0, q1, q2, q3, q4, q5⟩
    obtain ⟨ds, hds, hi⟩ := pick n (Nat.le_refl _)
    refine ⟨ds, ⟨hds, fun hn => ?_⟩, hl, by unfold maxLen at hmx; omega⟩
    obtain ⟨b, off, spot⟩ := ad
    obtain ⟨_, _, _, h0, _⟩ := hi 0 (by omega)
    have hs : spot = none := by simpa [Addr.add] using World.cell?_spot h0
    subst hs
    refine ⟨b, off, rfl, cell_lt (o := off) (by simpa [Addr.add] using h0), fun i hlt => ?_⟩
    have := hi i hlt
    rw [Addr.add_lit, Addr.add_lit, Addr.add_lit, Addr.add_lit] at this
    exact this
theorem Dos.at_ {w : World} {B n : Nat} {A : Option Addr} {ds : List DoV} (h : Dos w B A n ds) {i : Nat} (hi : i < n) :
    ∃ b off dk Ai mi ki, A = some ⟨b, off, none⟩ ∧ b < B ∧ w.cell? ⟨b, off + 4 * i, none⟩ = some (.int .i64 dk.op) ∧ w.cell? ⟨b, off + 4 * i + 1, none⟩ = some (.int .i64 dk.id) ∧ w.cell? ⟨b, off + 4 * i + 2, none⟩ = some (.slice Ai mi ki) ∧ w.cell? ⟨b, off + 4 * i + 3, none⟩ = some (.int .i64 dk.n) ∧ mi ≤ ki ∧ Rd w B Ai mi (bv dk.data) ∧ mi = dk.data.length ∧ ∃ h : i < ds.length, ds[i] = dk := by
  obtain ⟨b, off, e, hb, hc⟩ := h.addr (by omega)
  have hl := h.len
  obtain ⟨Ai, mi, ki, h1, h2, h3, h4, h5, h6⟩ := hc i (by omega)
  exact ⟨b, off, _, Ai, mi, ki, e, hb, h1, h2, h3, h4, h5, h6, by rw [← h6.len, bv_len], by omega, rfl⟩
/-- what short answers -/
def ShortPost (n : Nat) (ds : List DoV) (e : Ending) : Prop := ∃ b, e = .returned (.bool b) ∧ (b = true → n ≤ 300 ∧ ∀ d ∈ ds, d.data.length ≤ 65536)
set_option maxRecDepth 50000 in
theorem short_any (A : Option Addr) (n c B : Nat) (ds : List DoV) (w : World) (hd : Dos w B A n ds) (hc : n ≤ c) (hn : n ≤ 9223372036854775807) :
    Calls Try.prog 15 #[.slice A n c] w fun e w' => w' = w ∧ ShortPost n ds e := by
  have HD := Lib.hid hd
  clear hd
  go_enter Try.func15, Try.ntmps15
  go_wp2_with fail
  go_loopw [3, 4, 5, 6, 7, 8, 9, 10, 11, 12, 13, 14, 15, 16, 17, 18, 19, 20, 21, 22, 23, 24, 25, 26, 27] (fun v3 v4 _ _ _ _ _ _ _ _ _ _ _ _ _ _ _ _ _ _ _ _ _ _ _ wr => ∃ j N : Nat, v3 = .int .i64 (N : Nat) ∧ v4 = .int .i64 (j : Nat) ∧ j ≤ n ∧ j ≤ 301 ∧ N ≤ 131073 ∧ wr = w ∧ (N ≤ 65536 → ∀ i (h : i < ds.length), i < j → (ds[i]).data.length ≤ 65536)) (fun _ v _ _ _ _ _ _ _ _ _ _ _ _ _ _ _ _ _ _ _ _ _ _ _ _ => n - (intOf v).toNat)
  case atStart => exact ⟨0, 0, rfl, rfl, by omega, by omega, by omega, rfl, fun _ i _ h => by omega⟩
  case round =>
    obtain ⟨j, N, rfl, rfl, hj, hj1, hN, rfl, hall⟩ := hrel
    have HA := Lib.hid hall
    clear hall
    by_cases h1 : j < n
    · by_cases h2 : j ≤ 300
      · by_cases h3 : N ≤ 65536
        · obtain ⟨b, off, dk, Ai, mi, ki, rfl, hb, h4, h4b, h5, h5b, h6, h7, h8, h9, h10⟩ := HD.out.at_ h1
          have k1 : (j : Int) < (n : Int) := by omega
          have k2 : (j : Int) ≤ 300 := by omega
          have k3 : (N : Int) ≤ 65536 := by omega
          have HL := Lib.hid (And.intro h8 h10)
          rw [show off + 4 * j + 2 = off + j * 4 + 2 by omega] at h5
          clear h8 h7 h4 h4b h5b hb h10
          by_cases h11 : 65537 < mi
          · have k4 : (65537 : Int) < (mi : Int) := by omega
            go_wp2_with fail
            go_roundw
            case rel => exact ⟨j + 1, N + 65537, by go_num, by go_num, by omega, by omega, by omega, by first | rfl | trivial, fun _ => by omega⟩
            case measure => simp only [intOf]; omega
          · have k4 : ¬ (65537 : Int) < (mi : Int) := by omega
            go_wp2_with fail
            go_roundw
            case rel =>
              refine ⟨j + 1, N + mi, by go_num, by go_num, by omega, by omega, by omega, by first | rfl | trivial, fun hs i hi hij => ?_⟩
              by_cases e : i = j
              · subst e
                rw [HL.out.2]
                have := HL.out.1
                omega
              · exact HA.out h3 i hi (by omega)
            case measure => simp only [intOf]; omega
        · have k1 : (j : Int) < (n : Int) := by omega
          have k2 : (j : Int) ≤ 300 := by omega
          have k3 : ¬ (N : Int) ≤ 65536 := by omega
          by_cases h4 : n ≤ 300
          all_goals
            first | have k4 : (n : Int) ≤ 300 := by omega
                  | have k4 : ¬ (n : Int) ≤ 300 := by omega
            go_wp2_with fail
            go_ret
            exact ⟨rfl, ⟨_, rfl, fun h => by cases h⟩⟩
      · have k1 : (j : Int) < (n : Int) := by omega
        have k2 : ¬ (j : Int) ≤ 300 := by omega
        have k4 : ¬ (n : Int) ≤ 300 := by omega
        go_wp2_with fail
        go_ret
        exact ⟨rfl, ⟨_, rfl, fun h => by cases h⟩⟩
    · have k1 : ¬ (j : Int) < (n : Int) := by omega
      by_cases h4 : n ≤ 300
      · have k4 : (n : Int) ≤ 300 := by omega
        by_cases h3 : N ≤ 65536
        · have k3 : (N : Int) ≤ 65536 := by omega
          go_wp2_with fail
          go_ret
          refine ⟨rfl, _, rfl, fun _ => ⟨h4, fun d hd => ?_⟩⟩
          obtain ⟨i, hi, rfl⟩ := List.getElem_of_mem hd
          have := HD.out.len
          exact HA.out h3 i hi (by omega)
        · have k3 : ¬ (N : Int) ≤ 65536 := by omega
          go_wp2_with fail
          go_ret
          exact ⟨rfl, ⟨_, rfl, fun h => by cases h⟩⟩
      · have k4 : ¬ (n : Int) ≤ 300 := by omega
        go_wp2_with fail
        go_ret
        exact ⟨rfl, ⟨_, rfl, fun h => by cases h⟩⟩
end Go.Proofs.Ytnmifaohmafobaa.st
