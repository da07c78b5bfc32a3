/- lz's laws: parts in one, beginnings. -/
import Derived.Test.YtnikecjkaciplaaLzK
import Derived.Lib.AppendZeros
import Derived.Lib.MinMax
namespace Go.Proofs.Ytnikecjkaciplaa.lz
open Go.RowKit Mem OM LM oct
set_option linter.unusedVariables false
structure Parts (w : World) (B : Nat) (A : Option Addr) (n : Nat) (ls : List (List UInt8)) : Prop where
  len : ls.length = n
  rd : ∃ vs, Rd w B A n vs ∧ ∀ i (h : i < ls.length), ∃ Ai ci, vs[i]? = some (.slice Ai (ls[i]).length ci) ∧ (ls[i]).length ≤ ci ∧ Rd w B Ai (ls[i]).length (bv ls[i])
theorem Parts.below {w w' : World} {B n : Nat} {A : Option Addr} {ls : List (List UInt8)} (h : Parts w B A n ls) {B' : Nat} (hb : Below B' w w') (hB : B ≤ B') : Parts w' B A n ls := by
  obtain ⟨vs, h1, h2⟩ := h.rd
  exact ⟨h.len, vs, h1.below hb hB, fun i hi => by
    obtain ⟨Ai, ci, e, hc, hr⟩ := h2 i hi
    exact ⟨Ai, ci, e, hc, hr.below hb hB⟩⟩
theorem Parts.more {w : World} {B B' n : Nat} {A : Option Addr} {ls : List (List UInt8)} (h : Parts w B A n ls) (hB : B ≤ B') : Parts w B' A n ls := by
  obtain ⟨vs, h1, h2⟩ := h.rd
  exact ⟨h.len, vs, h1.more hB, fun i hi => by
    obtain ⟨Ai, ci, e, hc, hr⟩ := h2 i hi
    exact ⟨Ai, ci, e, hc, hr.more hB⟩⟩
theorem Parts.drewN {w : World} {B n : Nat} {A : Option Addr} {ls : List (List UInt8)} (h : Parts w B A n ls) (q : Nat) : Parts (w.drewN q) B A n ls := by
  obtain ⟨vs, h1, h2⟩ := h.rd
  exact ⟨h.len, vs, h1.drewN q, fun i hi => by
    obtain ⟨Ai, ci, e, hc, hr⟩ := h2 i hi
    exact ⟨Ai, ci, e, hc, hr.drewN q⟩⟩
/-- one part, as a call with one argument lays it -/
theorem Parts.one {w : World} {B : Nat} {A : Option Addr} {n c : Nat} {l : List UInt8} (hr : Rd w B A n (bv l)) (hc : n ≤ c) (hB : B ≤ w.heap.size) (t : TypeId) :
    Parts (w.alloc (.cells #[.slice A n c] t)) (w.heap.size + 1) (some ⟨w.heap.size, 0, none⟩) 1 [l] := by
  have hn : n = l.length := by rw [← hr.len, bv_len]
  subst hn
  refine ⟨rfl, [.slice A l.length c], Rd.one _ _ _, fun i hi => ?_⟩
  obtain rfl : i = 0 := by simpa using hi
  exact ⟨A, c, rfl, hc, (hr.below ((Below.refl B w).alloc hB _) (Nat.le_refl _)).more (Nat.le_trans hB (by omega))⟩
theorem Parts.at_ {w : World} {B n : Nat} {A : Option Addr} {ls : List (List UInt8)} (h : Parts w B A n ls) {k : Nat} (hk : k < n) :
    ∃ b off Ai ni ci l, A = some ⟨b, off, none⟩ ∧ b < B ∧ w.cell? ⟨b, off + k, none⟩ = some (.slice Ai ni ci) ∧ ni ≤ ci ∧ Rd w B Ai ni (bv l) ∧ (∃ h : k < ls.length, ls[k] = l) ∧ ni = l.length := by
  obtain ⟨vs, h1, h2⟩ := h.rd
  have hl := h.len
  obtain ⟨Ai, ci, e, hc, hr⟩ := h2 k (by omega)
  obtain ⟨b, off, rfl, hB, hcell⟩ := h1.at_ hk
  exact ⟨b, off, Ai, _, ci, _, rfl, hB, hcell.trans e, hc, hr, ⟨by omega, rfl⟩, rfl⟩

theorem rd_alloc (w : World) (E : TypeId) (cs : List Value) (fr : Nat × Nat) : Rd (w.alloc (.cells cs.toArray E fr)) (w.heap.size + 1) (some ⟨w.heap.size, 0, none⟩) cs.length cs := by
  refine ⟨rfl, fun _ => ⟨_, 0, rfl, by omega, fun i hi => ?_⟩⟩
  have h : (w.alloc (.cells cs.toArray E fr)).heap[w.heap.size]? = some (.cells cs.toArray E fr) := by
    show (w.heap.push _)[w.heap.size]? = _
    simp
  unfold World.cell?
  rw [h]
  simp
theorem Parts.two {w : World} {B : Nat} {A1 A2 : Option Addr} {n c m d : Nat} {l r : List UInt8} (h1 : Rd w B A1 n (bv l)) (hc : n ≤ c) (h2 : Rd w B A2 m (bv r)) (hd : m ≤ d) (hB : B ≤ w.heap.size) (t : TypeId) :
    Parts (w.alloc (.cells #[.slice A1 n c, .slice A2 m d] t)) (w.heap.size + 1) (some ⟨w.heap.size, 0, none⟩) 2 [l, r] := by
  have hn : n = l.length := by rw [← h1.len, bv_len]
  have hm : m = r.length := by rw [← h2.len, bv_len]
  subst hn hm
  refine ⟨rfl, [.slice A1 l.length c, .slice A2 r.length d], rd_alloc w t [.slice A1 l.length c, .slice A2 r.length d] (0, 0), fun i hi => ?_⟩
  have hb : Below B w (w.alloc (.cells #[.slice A1 l.length c, .slice A2 r.length d] t)) := (Below.refl B w).alloc hB _
  match i, hi with
  | 0, _ => exact ⟨A1, c, rfl, hc, (h1.below hb (Nat.le_refl _)).more (Nat.le_trans hB (by omega))⟩
  | 1, _ => exact ⟨A2, d, rfl, hd, (h2.below hb (Nat.le_refl _)).more (Nat.le_trans hB (by omega))⟩

def tot (ls : List (List UInt8)) : Nat := (ls.map List.length).sum
theorem tot_take (ls : List (List UInt8)) (k : Nat) (h : k < ls.length) : tot (ls.take (k + 1)) = tot (ls.take k) + (ls[k]).length := by
  unfold tot
  rw [← List.take_append_getElem h, List.map_append, List.sum_append]
  simp
theorem tot_flat (ls : List (List UInt8)) : tot ls = ls.flatten.length := by rw [List.length_flatten]; rfl
theorem tot_le (ls : List (List UInt8)) (k : Nat) : tot (ls.take k) ≤ tot ls := by
  have e : ls = ls.take k ++ ls.drop k := (List.take_append_drop k ls).symm
  have : tot ls = tot (ls.take k) + tot (ls.drop k) := by
    unfold tot
    rw [← List.sum_append, ← List.map_append, List.take_append_drop]
  omega
section
variable {P : Program} {w : World}
theorem grow_own {T E : TypeId} {z : Value} {bytes : Nat} (ty : Ty1 P T E z bytes) (n : Nat) (hn : n ≤ maxLen) :
    Ow (w.drew.alloc (.cells (Builtin.zeroCells z.cells n ++ Builtin.zeroCells z.cells (grownCap w n 0 E - n)) E)) w.heap.size E (some ⟨w.heap.size, 0, none⟩) 0 (grownCap w n 0 E) [] := by
  refine ⟨rfl, Or.inr ⟨w.heap.size, grownCap w n 0 E, Builtin.zeroCells z.cells n ++ Builtin.zeroCells z.cells (grownCap w n 0 E - n), rfl, Nat.le_refl _, ?_, Nat.zero_le _, grownCap_le_maxLen w n 0 E hn, ?_, by simp⟩⟩
  · show (w.drew.heap.push _)[w.heap.size]? = _
    rw [show w.drew.heap = w.heap from rfl]
    simp
  · have := grownCap_ge w n 0 E
    simp [Builtin.zeroCells, ty.hz]
    omega
/-- append of so many noughts to nothing, at the operation -/
theorem wp_zeros {ops : Array Oper} {rest : List Oper} {o : Oper} {a : Act} {Q : Exit → Act → World → Prop} {T tn E : TypeId} {z : Value} {bytes : Nat} (ty : Ty1 P T E z bytes) {kn : IntKind} (htn : P.underlying tn = some (.int kn)) (hgd : o.guard = none) (s x : Operand)
    (ho : o.op = .call { callee := .builtin .append, args := #[s, x], argTypes := #[T, tn] }) {k : IntKind} {n : Nat} (hs : a.eval s = .slice none 0 0) (hx : a.eval x = .int k n) (h0 : 0 < n) (hn : n ≤ 1099511627776) (hb : n * bytes ≤ 281474976710656)
    (h : ∀ c' w', Ow w' w.heap.size E (some ⟨w.heap.size, 0, none⟩) 0 c' [] → Below w.heap.size w w' → wpList P ops Q rest (a.put o.dst (.slice (some ⟨w.heap.size, 0, none⟩) n c')) w') :
    wpList P ops Q (o :: rest) a w := by
  refine wpList_plain hgd fun K hK => ?_
  obtain ⟨i, hi, hz, hsz, hby⟩ := ty.hi
  have hrun := Lib.run_append_nil_zeros (P := P) w T tn o.type E i z k kn ty.ht htn hi hz n h0 (by omega) (by omega) (by rw [hby]; exact hb)
  unfold Oper.wp execOp
  simp only [ho, resolve, invoke, builtin, Sem.run_bind, Sem.run_pure, Result.andThen_ok, List.map_toArray, List.map_cons, List.map_nil, hs, hx, hrun]
  exact hK _ _ (h _ _ (grow_own ty n (by unfold maxLen; omega)) ((Below.refl _ _).drew.alloc (Nat.le_refl _) _))
end

def GrownP (w : World) (e : Ending) (w' : World) : Prop := ∃ A c, e = .returned (.slice A 0 c) ∧ Ow w' w.heap.size 5 A 0 c [] ∧ Below w.heap.size w w'
theorem grow_nil (n : Nat) (w : World) (hn : n ≤ 1099511627776) : Calls Try.prog 34 #[.slice none 0 0, .int .i64 n] w (GrownP w) := by
  rcases Nat.eq_zero_or_pos n with h0 | h0
  · subst h0
    go_enter Try.func34, Try.ntmps34
    go_wp2
    go_ret
    exact ⟨_, _, rfl, Ow.nil _ _ _, Below.refl _ _⟩
  · have hni : (0 : Int) < (n : Int) := by omega
    go_enter Try.func34, Try.ntmps34
    go_wp2_with (at_builtin; refine wp_zeros u8ty Try.underlying3 rfl (.tmp 20) (.tmp 21) rfl rfl rfl h0 hn (by omega) ?_; intro c1 w1 ho1 hb1)
    go_ret
    exact ⟨_, _, rfl, ho1, hb1⟩

set_option maxHeartbeats 2000000 in
theorem concat_any (A : Option Addr) (n c B : Nat) (ls : List (List UInt8)) (w : World) (h : Parts w B A n ls) (hB : B ≤ w.heap.size) (hn : n ≤ 1048576) (htot : tot ls ≤ 1048576) :
    Calls Try.prog 18 #[.slice A n c] w (Made w ls.flatten) := by
  have Hl := Lib.hid h.len
  go_enter Try.func18, Try.ntmps18
  go_wp2_with fail
  go_loop [3, 5, 11] (fun s _ i => ∃ k S : Nat, s = .int .i64 S ∧ i = .int .i64 k ∧ k ≤ n ∧ S ≤ 1048576 ∧ Hid (S = tot (ls.take k))) (fun _ _ i => n - (intOf i).toNat)
  case atStart => exact ⟨0, 0, rfl, rfl, by omega, by omega, (rfl : 0 = tot (ls.take 0))⟩
  case round =>
    obtain ⟨k, S, rfl, rfl, hk, hS, HS⟩ := hrel
    by_cases hlt : k < n
    · obtain ⟨b, off, Ai, ni, ci, l, rfl, hbB, hcell, hci, hri, ⟨hkl, hel⟩, hni⟩ := h.at_ hlt
      have h1 := tot_take ls k hkl
      have h2 := tot_le ls (k + 1)
      rw [hel, ← hni, ← HS.out] at h1
      have h3 : S + ni ≤ 1048576 := by omega
      have HS2 := Lib.hid h1
      clear h1 h2 hni hel
      go_wp2_with fail
      go_round
      case rel => exact ⟨k + 1, S + ni, by go_num, by go_num, by omega, h3, HS2.out.symm⟩
      case measure => simp [intOf]; omega
    · go_wp2_with fail
      refine (grow_nil S w (by omega)).mono ?_
      rintro e w1 ⟨A1, c1, rfl, ho1, hb1⟩
      go_wp2_with fail
      clear HS hk hlt hS
      go_loopw [6, 8, 27] (fun v _ i wr => ∃ A2 N2 c2, ∃ j : Nat, v = .slice A2 N2 c2 ∧ i = .int .i64 j ∧ j ≤ n ∧ Ow wr w.heap.size 5 A2 N2 c2 (bv (ls.take j).flatten) ∧ Below w.heap.size w wr) (fun _ _ i _ => n - (intOf i).toNat)
      case atStart => exact ⟨A1, 0, c1, 0, rfl, rfl, by omega, ho1, hb1⟩
      case round =>
        obtain ⟨A2, N2, c2, j, rfl, rfl, hj, ho2, hb2⟩ := hrel
        by_cases hlt : j < n
        · obtain ⟨b, off, Ai, ni, ci, l, rfl, hbB, hcell, hci, hri, ⟨hkl, hel⟩, hni⟩ := (h.below hb2 hB).at_ hlt
          have h1 := tot_take ls j hkl
          have h2 := tot_le ls (j + 1)
          rw [hel, ← hni] at h1
          have h4 : N2 = tot (ls.take j) := by have := ho2.len; rw [bv_len, List.length_flatten] at this; exact this.symm
          have h3 : N2 + ni ≤ 1048576 := by omega
          have hfl : (ls.take (j + 1)).flatten = (ls.take j).flatten ++ l := by rw [List.take_succ_eq_append_getElem hkl, List.flatten_append, hel]; simp
          have HFL := Lib.hid hfl
          have hz2 := hb2.size
          clear h1 h2 h4 hni hel hfl
          go_wp2_with (at_builtin; refine wp_app u8ty rfl (.tmp 31) (.tmp 32) rfl rfl rfl ho2 hri (bv_one _) (by omega) (by omega) hz2 ?_; intro A3 N3 c3 w3 ho3 hN3 hb3 _; rw [← bv_app, ← HFL.out] at ho3; have hb3' := hb2.trans hb3; clear hb3 hcell)
          go_roundw
          case rel => exact ⟨A3, N3, c3, j + 1, rfl, by go_num, by omega, ho3, hb3'⟩
          case measure => simp [intOf]; omega
        · go_wp2_with fail
          go_ret
          rw [List.take_of_length_le (by have := Hl.out; omega)] at ho2
          exact ⟨_, _, _, rfl, ho2, hb2⟩
theorem prefix_any (A1 A2 : Option Addr) (n c m d B : Nat) (l r : List UInt8) (w : World) (h1 : Rd w B A1 n (bv l)) (h2 : Rd w B A2 m (bv r)) (hc : n ≤ c) (hp : r <+: l) :
    Calls Try.prog 19 #[.slice A1 n c, .slice A2 m d] w fun e w' => e = .returned (.bool true) ∧ w' = w := by
  have hl1 : l.length = n := by rw [← h1.len, bv_len]
  have hl2 : r.length = m := by rw [← h2.len, bv_len]
  have hle := hp.length_le
  have htk : l.take m = r := by
    obtain ⟨t, rfl⟩ := hp
    rw [← hl2, List.take_left]
  have hmi : (m : Int) ≤ (n : Int) := by omega
  have H1 := Lib.hid h1
  have H2 := Lib.hid h2
  have HT := Lib.hid htk
  clear h1 h2 htk hp hl1 hl2
  go_enter Try.func19, Try.ntmps19
  have hcut : Rd w B A1 m (bv r) := by
    have := H1.out.cut (l := 0) (m := m) (by omega) (A' := A1) (fun _ => by cases A1 <;> simp [Addr.add])
    rw [List.drop_zero, ← bv_take, HT.out] at this
    exact this
  have HC := Lib.hid hcut
  clear hcut
  go_wp2_with (first
    | (go_at_call 14; refine (equal_any _ _ _ _ _ _ _ r r _ HC.out H2.out).mono ?_; rintro e w' ⟨rfl, rfl⟩; rw [decide_eq_true rfl])
    | fail)
  go_ret
  exact ⟨rfl, rfl⟩
end Go.Proofs.Ytnikecjkaciplaa.lz
