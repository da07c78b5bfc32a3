/- RcST, RcU, RcV in one. -/
import Derived.Test.YtbcgnacfhpahkaaDoorLzMath3
import Derived.Test.YtbcgnacfhpahkaaDoorLzB
import Derived.Test.YtbcgnacfhpahkaaDoorLzJ
import Derived.Lib.MinMax
import Derived.Test.YtbcgnacfhpahkaaDoorRcMN
import Derived.Test.YtbcgnacfhpahkaaDoorRcQR
import Derived.Test.YtbcgnacfhpahkaaDoorCards
import Derived.Test.YtbcgnacfhpahkaaDoorTie
import Derived.ProofKit
import Derived.OpenShut
import Derived.Deep.DeepHandedRow
import Derived.Deep.Matrix
import Derived.Lib.LaidTab
namespace Go.Proofs.YtbcgnacfhpahkaaDoor.LM
open OM
theorem u8_nat (n : Nat) (h : n < 256) : (UInt8.ofNat n).toNat = n := by
  have : (UInt8.ofNat n).toNat = n % 256 := by simp
  omega
theorem lits_tell (most : Int) (tail : List UInt8) : ∀ (k : Nat) (b o : List UInt8), b.length ≤ k → ((o.length + b.length : Nat) : Int) ≤ most → re most (lits b ++ tail) o = re most tail (o ++ b) := by
  intro k
  induction k with
  | zero =>
    intro b o h _
    obtain rfl : b = [] := List.length_eq_zero_iff.1 (by omega)
    rw [lits_nil, List.nil_append, List.append_nil]
  | succ k ih =>
    intro b o h hm
    by_cases hb : b = []
    · subst hb
      rw [lits_nil, List.nil_append, List.append_nil]
    · have hp : 0 < b.length := List.length_pos_iff.2 hb
      have hk : (b.take 128).length = min 128 b.length := List.length_take
      have hx : (UInt8.ofNat ((b.take 128).length - 1)).toNat = (b.take 128).length - 1 := u8_nat _ (by omega)
      have hx1 : (UInt8.ofNat ((b.take 128).length - 1)).toNat + 1 = (b.take 128).length := by omega
      rw [lits_cons b hb, List.cons_append, List.append_assoc, re_lit (by omega) (by rw [hx1, List.length_append]; omega) (by rw [hx1]; omega), hx1, List.drop_left, List.take_left, ih (b.drop 128) (o ++ b.take 128) (by rw [List.length_drop]; omega) (by rw [List.length_append, List.length_drop]; omega), List.append_assoc, List.take_append_drop]
theorem copies_take (B p : List UInt8) (at_ back : Nat) (h1 : 1 ≤ back) (h2 : back ≤ at_) : ∀ m, m ≤ ali B at_ back → at_ + m ≤ B.length → copies (p ++ B.take at_) back m = p ++ B.take (at_ + m)
  | 0, _, _ => rfl
  | m + 1, h, hl => by
    have ih := copies_take B p at_ back h1 h2 m (by omega) (by omega)
    have hlen : (p ++ B.take (at_ + m)).length = p.length + (at_ + m) := by rw [List.length_append, List.length_take]; omega
    have hm66 : m < 66 := by
      have := (com_le (B.drop (at_ - back)) (nxt B at_)).2
      rw [nxt_len] at this
      unfold ali at h
      omega
    have hc := com_at (B.drop (at_ - back)) (nxt B at_) m (by unfold ali at h; omega)
    rw [List.getElem?_drop, nxt_at B at_ m hm66] at hc
    have hg : (p ++ B.take (at_ + m)).getD (p.length + (at_ + m) - back) 0 = B[at_ + m]'(by omega) := by
      rw [List.getD, List.getElem?_append_right (by omega), List.getElem?_take_of_lt (by omega), show p.length + (at_ + m) - back - p.length = at_ - back + m by omega, hc, List.getElem?_eq_getElem (by omega)]
      rfl
    show copies (p ++ B.take at_) back m ++ [(copies (p ++ B.take at_) back m).getD ((copies (p ++ B.take at_) back m).length - back) 0] = _
    rw [ih, hlen, hg, ← Nat.add_assoc, List.take_succ_eq_append_getElem (by omega), List.append_assoc]
theorem match_tell (most : Int) (B p tail : List UInt8) (at_ n back : Nat) (h3 : 3 ≤ n) (h66 : n ≤ 66) (hl : at_ + n ≤ B.length) (h1 : 1 ≤ back) (h5 : back ≤ 512) (h2 : back ≤ at_) (ha : n = ali B at_ back) (hm : ((p.length + B.length : Nat) : Int) ≤ most) :
    re most (UInt8.ofNat (n + 125) :: (numB back ++ tail)) (p ++ B.take at_) = re most tail (p ++ B.take (at_ + n)) := by
  have hx : (UInt8.ofNat (n + 125)).toNat = n + 125 := u8_nat _ (by omega)
  have hlen : (p ++ B.take at_).length = p.length + at_ := by rw [List.length_append, List.length_take]; omega
  have hlk := look_num back tail (by omega)
  have hin : inR (numB back ++ tail) 1 ((min 512 (p.length + at_) : Nat) : Int) = (back, fol back + 1, 0) := by
    unfold inR
    rw [hlk, if_neg]
    simp only
    omega
  have h0 : headR (UInt8.ofNat (n + 125)) (numB back ++ tail) (p ++ B.take at_).length = ((UInt8.ofNat (n + 125)).toNat - 125, back, fol back + 1, 0) := by
    unfold headR
    rw [hlen, if_neg (by omega), hin, if_neg (by simp), if_neg (by simp; omega)]
  rw [re_match h0 h1 (by rw [hlen, hx]; omega), hx, show n + 125 - 125 = n by omega, copies_take B p at_ back h1 h2 n (by omega) hl, ← numB_len, List.drop_left]
theorem shA_tell (most : Int) (B p : List UInt8) (hm : ((p.length + B.length : Nat) : Int) ≤ most) : ∀ (fuel at_ told : Nat) (out : List UInt8), B.length + 1 ≤ fuel + at_ → told ≤ at_ → at_ ≤ B.length → (∀ tail, re most (out ++ tail) p = re most tail (p ++ B.take told)) → ∀ tail, re most (shA B fuel at_ told out ++ tail) p = re most tail (p ++ B) := by
  intro fuel
  induction fuel with
  | zero => intro at_ told out h1 h2 h3; omega
  | succ fuel ih =>
    intro at_ told out h1 h2 h3 h4 tail
    have hs : shA B (fuel + 1) at_ told out = if B.length ≤ at_ then out ++ lits (B.drop told) else if (longest B at_).1 = 0 then shA B fuel (at_ + 1) told out
        else shA B fuel (at_ + (longest B at_).1) (at_ + (longest B at_).1) (out ++ lits ((B.drop told).take (at_ - told)) ++ [UInt8.ofNat ((longest B at_).1 + 125)] ++ numB (longest B at_).2) := rfl
    rw [hs]
    have htl : (B.take told).length = told := by rw [List.length_take]; omega
    split
    · rw [List.append_assoc, h4, lits_tell most tail (B.drop told).length (B.drop told) _ (Nat.le_refl _) (by rw [List.length_append, htl, List.length_drop]; omega), List.append_assoc, List.take_append_drop]
    · rename_i hlt
      split
      · exact ih (at_ + 1) told out (by omega) (by omega) (by omega) h4 tail
      · rename_i hn
        rcases longest_ok B at_ with h5 | ⟨o1, o2, o3, o4, o5, o6, o7⟩
        · rw [h5] at hn; exact absurd rfl hn
        · refine ih _ _ _ (by omega) (Nat.le_refl _) o3 (fun tl => ?_) tail
          have e2 : B.take told ++ (B.drop told).take (at_ - told) = B.take at_ := by
            have h6 := List.take_add (l := B) (i := told) (j := at_ - told)
            rw [show told + (at_ - told) = at_ by omega] at h6
            exact h6.symm
          rw [List.append_assoc, List.append_assoc, List.append_assoc, h4, lits_tell most _ _ ((B.drop told).take (at_ - told)) _ (Nat.le_refl _) (by rw [List.length_append, htl, List.length_take, List.length_drop]; omega), List.append_assoc, e2, List.singleton_append]
          exact match_tell most B p tl at_ _ _ o1 o2 o3 o4 o5 o6 o7 hm
theorem shB_tell (most : Int) (B p tail : List UInt8) (hm : ((p.length + B.length : Nat) : Int) ≤ most) : re most (shB B ++ tail) p = re most tail (p ++ B) :=
  shA_tell most B p hm (B.length + 1) 0 0 [] (by omega) (Nat.le_refl _) (Nat.zero_le _) (fun tl => by simp) tail
/-- P7.3 -/
theorem back_ok (B : List UInt8) : reB (shB B) (B.length : Nat) = (B, 0) := by
  rw [reB_re]
  have := shB_tell ((B.length : Nat) : Int) B [] [] (by simp)
  rwa [List.append_nil, List.nil_append, re_nil] at this
theorem twice_ok (a b : List UInt8) : reB (shB a ++ shB b) ((a.length : Nat) + (b.length : Nat)) = (a ++ b, 0) := by
  rw [reB_re]
  have h1 := shB_tell ((a.length : Nat) + (b.length : Nat) : Int) a [] (shB b) (by simp; omega)
  have h2 := shB_tell ((a.length : Nat) + (b.length : Nat) : Int) b a [] (by omega)
  rw [List.append_nil, re_nil] at h2
  rw [h1, List.nil_append, h2]
theorem lits_len : ∀ (k : Nat) (b : List UInt8), b.length ≤ k → (lits b).length = b.length + (b.length + 127) / 128
  | 0, b, h => by
    obtain rfl : b = [] := List.length_eq_zero_iff.1 (by omega)
    rfl
  | k + 1, b, h => by
    by_cases hb : b = []
    · subst hb; rfl
    · have hp : 0 < b.length := List.length_pos_iff.2 hb
      rw [lits_cons b hb, List.length_cons, List.length_append, List.length_take, lits_len k (b.drop 128) (by rw [List.length_drop]; omega), List.length_drop]
      omega
theorem numB_two {u : Nat} (h : u ≤ 512) : (numB u).length ≤ 2 := by
  rw [numB_len]
  rcases Nat.lt_or_ge (fol u) 2 with h1 | h1
  · omega
  · have := fol_ge u 1 (by omega)
    have h2 : pw 1 = 16384 := by decide
    omega
theorem shA_len (B : List UInt8) : ∀ (fuel at_ told : Nat) (out : List UInt8), told ≤ at_ → at_ ≤ B.length → B.length + 1 ≤ fuel + at_ → 3 * out.length ≤ 4 * told → 3 * (shA B fuel at_ told out).length ≤ 4 * B.length + 3 := by
  intro fuel
  induction fuel with
  | zero => intro at_ told out h1 h2 h3; omega
  | succ fuel ih =>
    intro at_ told out h1 h2 h3 h4
    have hs : shA B (fuel + 1) at_ told out = if B.length ≤ at_ then out ++ lits (B.drop told) else if (longest B at_).1 = 0 then shA B fuel (at_ + 1) told out
        else shA B fuel (at_ + (longest B at_).1) (at_ + (longest B at_).1) (out ++ lits ((B.drop told).take (at_ - told)) ++ [UInt8.ofNat ((longest B at_).1 + 125)] ++ numB (longest B at_).2) := rfl
    rw [hs]
    split
    · rw [List.length_append, lits_len _ _ (Nat.le_refl _), List.length_drop]
      omega
    · split
      · exact ih (at_ + 1) told out (by omega) (by omega) (by omega) h4
      · rename_i hn
        rcases longest_ok B at_ with h5 | ⟨o1, o2, o3, o4, o5, o6, o7⟩
        · rw [h5] at hn; exact absurd rfl hn
        · have h6 := numB_two o5
          refine ih _ _ _ (Nat.le_refl _) o3 (by omega) ?_
          rw [List.length_append, List.length_append, List.length_append, List.length_singleton, lits_len _ _ (Nat.le_refl _), List.length_take, List.length_drop]
          omega
theorem shB_len (B : List UInt8) : (shB B).length ≤ B.length + B.length / 3 + 1 := by
  have := shA_len B (B.length + 1) 0 0 [] (Nat.le_refl _) (Nat.zero_le _) (by omega) (by simp)
  unfold shB
  omega
end Go.Proofs.YtbcgnacfhpahkaaDoor.LM
namespace Go.Proofs.YtbcgnacfhpahkaaDoor.lz
open Go.RowKit Mem OM LM oct
set_option linter.unusedVariables false
structure Parts (w : World) (B : Nat) (A : Option Addr) (n : Nat) (ls : List (List UInt8)) : Prop where
  len : ls.length = n
  rd : ∃ vs, Rd w B A n vs ∧ ∀ i (h : i < ls.length), ∃ Ai ci, vs[i]? = some (.slice Ai (ls[i]).length ci) ∧ (ls[i]).length ≤ ci ∧ Rd w B Ai (ls[i]).length (bv ls[i])
theorem Parts.below {w w' : World} {B n : Nat} {A : Option Addr} {ls : List (List UInt8)} (h : Parts w B A n ls) {B' : Nat} (hb : Below B' w w') (hB : B ≤ B') : Parts w' B A n ls := by
  obtain ⟨vs, h1, h2⟩ := h.rd
  exact ⟨h.len, vs, h1.below hb hB, fun i hi => by
    obtain ⟨Ai, ci, e, hc, hr⟩ := h2 i hi
    exact ⟨Ai, ci, e, hc, hr.below hb hB⟩⟩
theorem Parts.more {w : World} {B B' n : Nat} {A : Option Addr} {ls : List (List UInt8)} (h : Parts w B A n ls) (hB : B ≤ B') : Parts w B' A n ls := by
  obtain ⟨vs, h1, h2⟩ := h.rd
  exact ⟨h.len, vs, h1.more hB, fun i hi => by
    obtain ⟨Ai, ci, e, hc, hr⟩ := h2 i hi
    exact ⟨Ai, ci, e, hc, hr.more hB⟩⟩
theorem Parts.drewN {w : World} {B n : Nat} {A : Option Addr} {ls : List (List UInt8)} (h : Parts w B A n ls) (q : Nat) : Parts (w.drewN q) B A n ls := by
  obtain ⟨vs, h1, h2⟩ := h.rd
  exact ⟨h.len, vs, h1.drewN q, fun i hi => by
    obtain ⟨Ai, ci, e, hc, hr⟩ := h2 i hi
    exact ⟨Ai, ci, e, hc, hr.drewN q⟩⟩
/-- one part, as a call with one argument lays it -/
theorem Parts.one {w : World} {B : Nat} {A : Option Addr} {n c : Nat} {l : List UInt8} (hr : Rd w B A n (bv l)) (hc : n ≤ c) (hB : B ≤ w.heap.size) (t : TypeId) :
    Parts (w.alloc (.cells #[.slice A n c] t)) (w.heap.size + 1) (some ⟨w.heap.size, 0, none⟩) 1 [l] := by
  have hn : n = l.length := by rw [← hr.len, bv_len]
  subst hn
  refine ⟨rfl, [.slice A l.length c], Rd.one _ _ _, fun i hi => ?_⟩
  obtain rfl : i = 0 := by simpa using hi
  exact ⟨A, c, rfl, hc, (hr.below ((Below.refl B w).alloc hB _) (Nat.le_refl _)).more (Nat.le_trans hB (by omega))⟩
theorem Parts.at_ {w : World} {B n : Nat} {A : Option Addr} {ls : List (List UInt8)} (h : Parts w B A n ls) {k : Nat} (hk : k < n) :
    ∃ b off Ai ni ci l, A = some ⟨b, off, none⟩ ∧ b < B ∧ w.cell? ⟨b, off + k, none⟩ = some (.slice Ai ni ci) ∧ ni ≤ ci ∧ Rd w B Ai ni (bv l) ∧ (∃ h : k < ls.length, ls[k] = l) ∧ ni = l.length := by
  obtain ⟨vs, h1, h2⟩ := h.rd
  have hl := h.len
  obtain ⟨Ai, ci, e, hc, hr⟩ := h2 k (by omega)
  obtain ⟨b, off, rfl, hB, hcell⟩ := h1.at_ hk
  exact ⟨b, off, Ai, _, ci, _, rfl, hB, hcell.trans e, hc, hr, ⟨by omega, rfl⟩, rfl⟩

theorem rd_alloc (w : World) (E : TypeId) (cs : List Value) (fr : Nat × Nat) : Rd (w.alloc (.cells cs.toArray E fr)) (w.heap.size + 1) (some ⟨w.heap.size, 0, none⟩) cs.length cs := by
  refine ⟨rfl, fun _ => ⟨_, 0, rfl, by omega, fun i hi => ?_⟩⟩
  have h : (w.alloc (.cells cs.toArray E fr)).heap[w.heap.size]? = some (.cells cs.toArray E fr) := by
    show (w.heap.push _)[w.heap.size]? = _
    simp
  unfold World.cell?
  rw [h]
  simp
theorem Parts.two {w : World} {B : Nat} {A1 A2 : Option Addr} {n c m d : Nat} {l r : List UInt8} (h1 : Rd w B A1 n (bv l)) (hc : n ≤ c) (h2 : Rd w B A2 m (bv r)) (hd : m ≤ d) (hB : B ≤ w.heap.size) (t : TypeId) :
    Parts (w.alloc (.cells #[.slice A1 n c, .slice A2 m d] t)) (w.heap.size + 1) (some ⟨w.heap.size, 0, none⟩) 2 [l, r] := by
  have hn : n = l.length := by rw [← h1.len, bv_len]
  have hm : m = r.length := by rw [← h2.len, bv_len]
  subst hn hm
  refine ⟨rfl, [.slice A1 l.length c, .slice A2 r.length d], rd_alloc w t [.slice A1 l.length c, .slice A2 r.length d] (0, 0), fun i hi => ?_⟩
  have hb : Below B w (w.alloc (.cells #[.slice A1 l.length c, .slice A2 r.length d] t)) := (Below.refl B w).alloc hB _
  match i, hi with
  | 0, _ => exact ⟨A1, c, rfl, hc, (h1.below hb (Nat.le_refl _)).more (Nat.le_trans hB (by omega))⟩
  | 1, _ => exact ⟨A2, d, rfl, hd, (h2.below hb (Nat.le_refl _)).more (Nat.le_trans hB (by omega))⟩

def tot (ls : List (List UInt8)) : Nat := (ls.map List.length).sum
theorem tot_take (ls : List (List UInt8)) (k : Nat) (h : k < ls.length) : tot (ls.take (k + 1)) = tot (ls.take k) + (ls[k]).length := by
  unfold tot
  rw [← List.take_append_getElem h, List.map_append, List.sum_append]
  simp
theorem tot_flat (ls : List (List UInt8)) : tot ls = ls.flatten.length := by rw [List.length_flatten]; rfl
theorem tot_le (ls : List (List UInt8)) (k : Nat) : tot (ls.take k) ≤ tot ls := by
  have e : ls = ls.take k ++ ls.drop k := (List.take_append_drop k ls).symm
  have : tot ls = tot (ls.take k) + tot (ls.drop k) := by
    unfold tot
    rw [← List.sum_append, ← List.map_append, List.take_append_drop]
  omega
end Go.Proofs.YtbcgnacfhpahkaaDoor.lz
namespace Go.Proofs.YtbcgnacfhpahkaaDoor.lz
open Go.RowKit Mem OM LM oct
set_option linter.unusedVariables false
attribute [local go_sem] Oper.semAt_some
theorem ali_is (B : List UInt8) (e bk j : Nat) (hb : bk ≤ e) (h1 : 1 ≤ bk) (he : e < B.length) (hj : j ≤ min 66 (B.length - e)) (h : ∀ q, q < j → B[e - bk + q]? = B[e + q]?) (h2 : j = min 66 (B.length - e) ∨ (j < 66 ∧ e + j < B.length ∧ B[e - bk + j]? ≠ B[e + j]?)) : ali B e bk = j := by
  unfold ali
  refine com_eq _ _ j (by rw [List.length_drop]; omega) (by rw [nxt_len]; exact hj) (fun i hi => ?_) ?_
  · rw [List.getElem?_drop, nxt_at B e i (by omega)]
    exact h i hi
  · rcases h2 with h2 | ⟨h3, h4, h5⟩
    · exact Or.inl (by rw [nxt_len]; exact h2)
    · exact Or.inr ⟨by rw [List.length_drop]; omega, by rw [nxt_len]; omega, by rw [List.getElem?_drop, nxt_at B e j h3]; exact h5⟩
set_option maxRecDepth 50000 in
set_option maxHeartbeats 8000000 in
theorem refLongest_any (A : Option Addr) (n c C e : Nat) (B : List UInt8) (w : World) (hr : Rd w C A n (bv B)) (he : e < n) (hn : n ≤ 1048576) :
    Calls Tryd.prog 61 #[.slice A n c, .int .i64 (e : Nat)] w fun en w' => en = .returned (.tuple #[.int .i64 ((best B e (min 512 e)).2 : Nat), .int .i64 ((best B e (min 512 e)).1 : Nat)]) ∧ Below w.heap.size w w' := by
  have hl : B.length = n := by rw [← hr.len, bv_len]
  obtain ⟨g, off, rfl, hg, hcell⟩ := hr.addr (by omega)
  have hcs : ∀ i, (h : i < n) → w.cell? ⟨g, off + i, none⟩ = some (.int .u8 ((B[i]'(by omega)).toNat : Int)) := fun i h => by
    rw [hcell i h, bv_at B i (by omega)]
  have hgl : g < w.heap.size := cell_lt (hcs 0 (by omega))
  have HC : Hid (∀ y, Below w.heap.size w y → ∀ i, (h : i < n) → y.cell? ⟨g, off + i, none⟩ = some (.int .u8 ((B[i]'(by omega)).toNat : Int))) := Lib.hid (fun y hy i h => (hy.cell (p := ⟨g, off + i, none⟩) hgl).trans (hcs i h))
  have HL := Lib.hid hl
  clear hr hcell hcs hg hgl
  go_enter Tryd.func61, Tryd.ntmps61
  go_wp2_with fail
  go_loopw [6, 7, 8] (fun f7 l8 b9 wr => ∃ k : Nat, f7 = .int .i64 ((best B e k).2 : Nat) ∧ l8 = .int .i64 ((best B e k).1 : Nat) ∧ b9 = .int .i64 ((k + 1 : Nat) : Int) ∧ k ≤ min 512 e ∧ Hid (Below w.heap.size w wr)) (fun _ _ b9 _ => 600 - (intOf b9).toNat)
  case atStart => exact ⟨0, rfl, rfl, rfl, Nat.zero_le _, Lib.hid (Below.refl _ _)⟩
  case round =>
    obtain ⟨k, rfl, rfl, rfl, hk, HQ⟩ := hrel
    have hbl := best_len B e k
    have hbb := (best_back B e k).1
    rw [nxt_len] at hbl
    obtain ⟨L, hL⟩ : ∃ L, (best B e k).1 = L := ⟨_, rfl⟩
    obtain ⟨F, hF⟩ : ∃ F, (best B e k).2 = F := ⟨_, rfl⟩
    have HB := Lib.hid (And.intro hL hF)
    rw [hL] at hbl
    rw [hF] at hbb
    rw [hL, hF]
    clear hL hF
    by_cases h512 : k + 1 ≤ 512
    · have h5i : ((k + 1 : Nat) : Int) ≤ 512 := by omega
      by_cases hke : k + 1 ≤ e
      · have hki : ((k + 1 : Nat) : Int) ≤ (e : Int) := by omega
        obtain ⟨bk, hbk⟩ : ∃ bk, k + 1 = bk := ⟨_, rfl⟩
        have HBK := Lib.hid hbk
        rw [hbk] at h5i hki h512 hke ⊢
        clear hbk
        go_wp2_with fail
        go_loopw [9, 19, 20, 21, 22, 23, 24, 25, 26, 27, 28, 29, 30, 31, 32, 33, 34, 35, 36, 37, 38, 39, 40, 41, 42, 43, 44, 45, 46, 47] (fun n9 _ _ _ _ _ _ _ _ _ _ _ _ _ _ _ _ _ _ _ _ _ _ _ _ _ _ _ _ _ wx => ∃ j : Nat, n9 = .int .i64 (j : Nat) ∧ j ≤ min 66 (n - e) ∧ Hid (∀ q, q < j → B[e - bk + q]? = B[e + q]?) ∧ Hid (Below w.heap.size w wx)) (fun n9 _ _ _ _ _ _ _ _ _ _ _ _ _ _ _ _ _ _ _ _ _ _ _ _ _ _ _ _ _ _ => 70 - (intOf n9).toNat)
        case atStart => exact ⟨0, rfl, Nat.zero_le _, Lib.hid (fun q hq => by omega), HQ⟩
        case round =>
          clear HQ
          obtain ⟨j, rfl, hj, HJ, HQ⟩ := hrel
          obtain ⟨E1, hE1⟩ : ∃ E1, e + j = E1 := ⟨_, rfl⟩
          have hE1i : (e : Int) + (j : Int) = (E1 : Int) := by omega
          by_cases h66 : j < 66
          · have h6i : (j : Int) < 66 := by omega
            by_cases hEn : E1 < n
            · have hEi : (E1 : Int) < (n : Int) := by omega
              have hE0 : (0 : Int) ≤ (E1 : Int) := by omega
              obtain ⟨E3, hE3⟩ : ∃ E3, e - bk = E3 := ⟨_, rfl⟩
              have hE3i : (e : Int) - (bk : Int) = (E3 : Int) := by omega
              obtain ⟨E2, hE2⟩ : ∃ E2, E3 + j = E2 := ⟨_, rfl⟩
              have hE2i : (E3 : Int) + (j : Int) = (E2 : Int) := by omega
              have hE2n : (E2 : Int) < (n : Int) := by omega
              have hE20 : (0 : Int) ≤ (E2 : Int) := by omega
              have c1 := HC.out _ HQ.out E1 hEn
              have c2 := HC.out _ HQ.out E2 (by omega)
              have g1 : B[E1]? = some (B[E1]'(by omega)) := List.getElem?_eq_getElem _
              have g2 : B[E2]? = some (B[E2]'(by omega)) := List.getElem?_eq_getElem _
              generalize B[E1]'(by omega) = x1 at *
              generalize B[E2]'(by omega) = x2 at *
              have HG := Lib.hid (And.intro g1 (And.intro g2 (And.intro hE1 (And.intro hE2 hE3))))
              clear g1 g2 hE1 hE2 hE3
              by_cases hx : x1 = x2
              · subst hx
                go_wp2_with fail
                refine wp_region_quiet_lit (by kernel_rfl) (by kernel_rfl) ?_
                repeat (go_big_quiet_step (fail))
                refine wpQuiet_nil ?_
                rintro _ ⟨nq, rfl⟩
                have HQ2 := Lib.hid (below_drewN HQ.out nq)
                generalize wr.drewN nq = wr2 at *
                go_wp2_with fail
                go_roundw
                case rel => exact ⟨j + 1, by go_num, by omega, Lib.hid (fun q hq => by
                  rcases Nat.lt_or_ge q j with h | h
                  · exact HJ.out q h
                  · obtain rfl : q = j := by omega
                    obtain ⟨g1, g2, g3, g4, g5⟩ := HG.out
                    rw [g3, g5, g4, g1, g2]), HQ2⟩
                case measure => simp only [intOf]; omega
              · have hxi : ¬ ((x1.toNat : Int) = (x2.toNat : Int)) := fun e => hx (UInt8.toNat_inj.1 (by omega))
                have hali : ali B e bk = j := ali_is B e bk j hke (by have := HBK.out; omega) (by have := HL.out; omega) (by have := HL.out; omega) HJ.out (Or.inr ⟨h66, by have := HL.out; have := HG.out; omega, by obtain ⟨g1, g2, g3, g4, g5⟩ := HG.out; rw [g3, g5, g4, g1, g2]; exact fun e => hx (by injection e with e; exact e.symm)⟩)
                have hbs : best B e (k + 1) = if (best B e k).1 < ali B e (k + 1) then (ali B e (k + 1), k + 1) else best B e k := rfl
                rw [HBK.out, hali, HB.out.1] at hbs
                have HBS := Lib.hid hbs
                clear hbs hali
                go_wp2_with fail
                refine wp_region_quiet_lit (by kernel_rfl) (by kernel_rfl) ?_
                repeat (go_big_quiet_step (fail))
                refine wpQuiet_nil ?_
                rintro _ ⟨nq, rfl⟩
                have HQ2 := Lib.hid (below_drewN HQ.out nq)
                generalize wr.drewN nq = wr2 at *
                by_cases hLj : L < j
                · have hLi : (L : Int) < (j : Int) := by omega
                  go_wp2_with fail
                  go_roundw
                  case rel => exact ⟨bk, by rw [HBS.out, if_pos hLj], by rw [HBS.out, if_pos hLj], by go_num, by have := HBK.out; omega, HQ2⟩
                  case measure => simp only [intOf]; omega
                · have hLi : ¬ (L : Int) < (j : Int) := by omega
                  go_wp2_with fail
                  go_roundw
                  case rel => exact ⟨bk, by rw [HBS.out, if_neg hLj, HB.out.2], by rw [HBS.out, if_neg hLj, HB.out.1], by go_num, by have := HBK.out; omega, HQ2⟩
                  case measure => simp only [intOf]; omega
            · have hEi : ¬ (E1 : Int) < (n : Int) := by omega
              have hali : ali B e bk = j := ali_is B e bk j hke (by have := HBK.out; omega) (by have := HL.out; omega) (by have := HL.out; omega) HJ.out (Or.inl (by have := HL.out; omega))
              have hbs : best B e (k + 1) = if (best B e k).1 < ali B e (k + 1) then (ali B e (k + 1), k + 1) else best B e k := rfl
              rw [HBK.out, hali, HB.out.1] at hbs
              have HBS := Lib.hid hbs
              clear hbs hali
              go_wp2_with fail
              refine wp_region_quiet_lit (by kernel_rfl) (by kernel_rfl) ?_
              repeat (go_big_quiet_step (fail))
              refine wpQuiet_nil ?_
              rintro _ ⟨nq, rfl⟩
              have HQ2 := Lib.hid (below_drewN HQ.out nq)
              generalize wr.drewN nq = wr2 at *
              by_cases hLj : L < j
              · have hLi : (L : Int) < (j : Int) := by omega
                go_wp2_with fail
                go_roundw
                case rel => exact ⟨bk, by rw [HBS.out, if_pos hLj], by rw [HBS.out, if_pos hLj], by go_num, by have := HBK.out; omega, HQ2⟩
                case measure => simp only [intOf]; omega
              · have hLi : ¬ (L : Int) < (j : Int) := by omega
                go_wp2_with fail
                go_roundw
                case rel => exact ⟨bk, by rw [HBS.out, if_neg hLj, HB.out.2], by rw [HBS.out, if_neg hLj, HB.out.1], by go_num, by have := HBK.out; omega, HQ2⟩
                case measure => simp only [intOf]; omega
          · obtain rfl : j = 66 := by omega
            have hali : ali B e bk = 66 := ali_is B e bk 66 hke (by have := HBK.out; omega) (by have := HL.out; omega) (by have := HL.out; omega) HJ.out (Or.inl (by have := HL.out; omega))
            have hbs : best B e (k + 1) = if (best B e k).1 < ali B e (k + 1) then (ali B e (k + 1), k + 1) else best B e k := rfl
            rw [HBK.out, hali, HB.out.1] at hbs
            have HBS := Lib.hid hbs
            clear hbs hali
            go_wp2_with fail
            refine wp_region_quiet_lit (by kernel_rfl) (by kernel_rfl) ?_
            repeat (go_big_quiet_step (fail))
            refine wpQuiet_nil ?_
            rintro _ ⟨nq, rfl⟩
            have HQ2 := Lib.hid (below_drewN HQ.out nq)
            generalize wr.drewN nq = wr2 at *
            by_cases hLj : L < 66
            · have hLi : (L : Int) < 66 := by omega
              go_wp2_with fail
              go_roundw
              case rel => exact ⟨bk, by rw [HBS.out, if_pos hLj], by rw [HBS.out, if_pos hLj], by go_num, by have := HBK.out; omega, HQ2⟩
              case measure => simp only [intOf]; omega
            · have hLi : ¬ (L : Int) < 66 := by omega
              go_wp2_with fail
              go_roundw
              case rel => exact ⟨bk, by rw [HBS.out, if_neg hLj, HB.out.2], by rw [HBS.out, if_neg hLj, HB.out.1], by go_num, by have := HBK.out; omega, HQ2⟩
              case measure => simp only [intOf]; omega
      · have hki : ¬ ((k + 1 : Nat) : Int) ≤ (e : Int) := by omega
        have hkm : min 512 e = k := by omega
        have HM := Lib.hid hkm
        clear hkm
        go_wp2_with fail
        go_ret2
        rw [HM.out, HB.out.1, HB.out.2]
        exact ⟨rfl, HQ.out⟩
    · have h5i : ¬ ((k + 1 : Nat) : Int) ≤ 512 := by omega
      have hkm : min 512 e = k := by omega
      have HM := Lib.hid hkm
      clear hkm
      go_wp2_with fail
      go_ret2
      rw [HM.out, HB.out.1, HB.out.2]
      exact ⟨rfl, HQ.out⟩
end Go.Proofs.YtbcgnacfhpahkaaDoor.lz
namespace Go.Proofs.YtbcgnacfhpahkaaDoor.lz
open Go.RowKit Mem OM LM oct
set_option linter.unusedVariables false
attribute [local go_sem] Oper.semAt_some
structure PlSt (w wr : World) (C n : Nat) (b : List UInt8) (Ab : Option Addr) (nb cb : Nat) (A : Option Addr) (N c : Nat) (rest out : List UInt8) : Prop where
  rd : Rd wr C Ab nb (bv rest)
  nc : nb ≤ cb
  own : Ow wr w.heap.size 5 A N c (bv out)
  below : Below w.heap.size w wr
  eq : out ++ lits rest = lits b
  few : out.length + 2 * rest.length ≤ 2 * n
set_option maxRecDepth 50000 in
set_option maxHeartbeats 4000000 in
theorem plain_any (Ab : Option Addr) (n c C : Nat) (b : List UInt8) (w : World) (hr : Rd w C Ab n (bv b)) (hC : C ≤ w.heap.size) (hc : n ≤ c) (hn : n ≤ 1048576) :
    Calls Tryd.prog 62 #[.slice Ab n c] w (Made w (lits b)) := by
  have hl : b.length = n := by rw [← hr.len, bv_len]
  have H0 : Hid (PlSt w w C n b Ab n c none 0 0 b []) := Lib.hid ⟨hr, hc, Ow.nil _ _ _, Below.refl _ _, rfl, by simp; omega⟩
  clear hr hl
  go_enter Tryd.func62, Tryd.ntmps62
  go_wp2_with fail
  go_loopw [0, 3] (fun s0 s3 wr => ∃ (Ab : Option Addr) (nb cb : Nat) (A : Option Addr) (N c : Nat) (rest out : List UInt8), s0 = .slice Ab nb cb ∧ s3 = .slice A N c ∧ Hid (PlSt w wr C n b Ab nb cb A N c rest out)) (fun s0 _ _ => match s0 with
    | .slice _ k _ => k
    | _ => 0)
  case atStart => exact ⟨Ab, n, c, none, 0, 0, b, [], rfl, rfl, H0⟩
  case round =>
    clear H0
    obtain ⟨Ab, nb, cb, A, N, c, rest, out, rfl, rfl, HP⟩ := hrel
    have hrl : rest.length = nb := by rw [← HP.out.rd.len, bv_len]
    have hol : out.length = N := by have := HP.out.own.len; rwa [bv_len] at this
    have hfew := HP.out.few
    have hws := HP.out.below.size
    by_cases hnb : 0 < nb
    · have hni : (0 : Int) < (nb : Int) := by omega
      obtain ⟨q, hq⟩ : ∃ q, min 128 nb = q := ⟨_, rfl⟩
      have hqi : min (128 : Int) (nb : Int) = (q : Int) := by omega
      have hq2 : 1 ≤ q ∧ q ≤ 128 ∧ q ≤ nb := by omega
      have hqn : (q : Int) ≤ (nb : Int) := by omega
      have hqc : q ≤ cb := by have := HP.out.nc; omega
      have hw1 : IntKind.i64.wrap ((q : Int) - 1) = ((q - 1 : Nat) : Int) := by rw [IntKind.wrap_i64]; omega
      have hw2 : IntKind.u8.wrap ((q - 1 : Nat) : Int) = ((UInt8.ofNat (q - 1)).toNat : Int) := by
        have : (UInt8.ofNat (q - 1)).toNat = (q - 1) % 256 := by simp
        rw [IntKind.wrap_u8]
        omega
      have HW2 := Lib.hid hw2
      clear hw2
      have hcq : Rd wr C Ab q (bv (rest.take q)) := by
        have := HP.out.rd.cut (l := 0) (m := q) (by omega) (A' := Ab) (fun _ => by cases Ab <;> simp [Addr.add])
        rwa [List.drop_zero, ← bv_take] at this
      have hne : rest ≠ [] := fun e => by rw [e] at hrl; simp at hrl; omega
      have htk : rest.take 128 = rest.take q ∧ rest.drop 128 = rest.drop q := by
        rcases Nat.lt_or_ge nb 128 with h | h
        · have : q = nb := by omega
          subst this
          rw [List.take_of_length_le (by omega), List.take_of_length_le (by omega), List.drop_eq_nil_of_le (by omega), List.drop_eq_nil_of_le (by omega)]
          exact ⟨rfl, rfl⟩
        · rw [show q = 128 by omega]; exact ⟨rfl, rfl⟩
      have hlc := lits_cons rest hne
      rw [htk.1, htk.2, List.length_take, show min q rest.length = q by omega] at hlc
      have HQ := Lib.hid (And.intro hcq (And.intro hlc hrl))
      clear hcq hlc htk hq hne
      go_wp2_with fail
      go_region_law (first
        | (refine step_app u8ty rfl (.tmp 11) (.tmp 15) rfl rfl rfl (HP.out.own.alloc _).drew (Rd.one _ _ _).drew (one1 rfl) (by omega) (by omega) (by simp; omega) ?_; intro A1 N1 c1 w1 ho1 hN1 hb1 _; have hbw1 : Below w.heap.size wr w1 := ((((Below.refl w.heap.size wr).alloc hws _).drew).trans hb1); have hz1 := hbw1.size)
        | (refine step_app u8ty rfl (.tmp 16) (.tmp 19) rfl rfl rfl ho1 (HQ.out.1.below hbw1 hC) (bv_one _) (by omega) (by omega) (Nat.le_trans hws hz1) ?_; intro A2 N2 c2 w2 ho2 hN2 hb2 _)
        | fail)
      all_goals
        have hbw2 := hbw1.trans hb2
        have hrr := HP.out.rd.below hbw2 hC
        go_wp2_with (first
          | (refine wp_cut_l u8ty rfl (.tmp 21) (.tmp 22) rfl rfl rfl hrr (by omega) (by omega) HP.out.nc ?_; intro A3 n3 c3 hn3 hc3 h3 _; have hn3' : n3 = nb - q := (by omega); have hc3' : n3 ≤ c3 := (by have := HP.out.nc; omega); rw [Int.toNat_natCast, ← bv_drop] at h3; subst hn3'; have HR3 := Lib.hid (And.intro h3 hc3'); clear h3 hn3 hc3 hc3')
          | fail)
        go_roundw
        case rel =>
          have e2 : bv out ++ [Value.int .u8 (IntKind.u8.wrap ((q - 1 : Nat) : Int))] ++ bv (rest.take q) = bv (out ++ UInt8.ofNat (q - 1) :: rest.take q) := by
            rw [HW2.out, bv_app, List.append_assoc]
            rfl
          rw [e2] at ho2
          refine ⟨A3, nb - q, c3, A2, N2, c2, rest.drop q, _, rfl, rfl, Lib.hid ⟨HR3.out.1, HR3.out.2, ho2, HP.out.below.trans hbw2, ?_, ?_⟩⟩
          · rw [← HP.out.eq, HQ.out.2.1, List.append_assoc, List.cons_append]
          · rw [List.length_append, List.length_cons, List.length_take, List.length_drop]
            omega
        case measure =>
          show nb - q < nb
          omega
    · have hni : ¬ (0 : Int) < (nb : Int) := by omega
      have hre : rest = [] := List.length_eq_zero_iff.1 (by omega)
      have he := HP.out.eq
      rw [hre, lits_nil, List.append_nil] at he
      have HE := Lib.hid he
      clear he
      go_wp2_with fail
      go_ret
      have := HP.out.own
      rw [HE.out] at this
      exact ⟨A, N, c, rfl, this, HP.out.below⟩
structure RfSt (w wr : World) (n : Nat) (B : List UInt8) (A : Option Addr) (N c : Nat) (S : Option Addr) (M d : Nat) (told at_ fuel : Nat) (out : List UInt8) : Prop where
  own : Ow wr w.heap.size 5 A N c (bv out)
  own2 : Ow wr w.heap.size 5 S M d (bv ((B.drop told).take (at_ - told)))
  dis : ∀ k, blk A = some k → blk S ≠ some k
  below : Below w.heap.size w wr
  le : told ≤ at_ ∧ at_ ≤ n
  fu : n + 1 ≤ fuel + at_
  eq : shA B fuel at_ told out = shB B
  few : out.length ≤ 16 * told
theorem u8_app (l : List UInt8) (L1 : Nat) (h : L1 ≤ 66) : bv l ++ [Value.int .u8 ((L1 : Int) + 125)] = bv l ++ bv [UInt8.ofNat (L1 + 125)] := by
  have hu8 : (L1 : Int) + 125 = ((UInt8.ofNat (L1 + 125)).toNat : Int) := by
    have : (UInt8.ofNat (L1 + 125)).toNat = (L1 + 125) % 256 := by simp
    omega
  rw [hu8]
  rfl
theorem best_longest (B : List UInt8) (e : Nat) : ((best B e (min 512 e)).1 < 3 ∧ longest B e = (0, 0)) ∨ (3 ≤ (best B e (min 512 e)).1 ∧ longest B e = best B e (min 512 e)) := by
  unfold longest worth
  split
  · rename_i h; exact Or.inl ⟨h, rfl⟩
  · rename_i h; exact Or.inr ⟨by omega, rfl⟩
set_option maxRecDepth 100000 in
set_option maxHeartbeats 8000000 in
theorem refShorten_any (A0 : Option Addr) (n c0 C : Nat) (B : List UInt8) (w : World) (hb : Rd w C A0 n (bv B)) (hC : C ≤ w.heap.size) (hnc : n ≤ c0) (hn : n ≤ 1048576) :
    Calls Tryd.prog 38 #[.slice A0 n c0] w (Made w (shB B)) := by
  have hBl : B.length = n := by rw [← hb.len, bv_len]
  have H0 : Hid (RfSt w w n B none 0 0 none 0 0 0 0 (n + 1) []) := Lib.hid ⟨Ow.nil _ _ _, (by simp [bv]; exact Ow.nil _ _ _), (fun k h => by cases h), Below.refl _ _, ⟨Nat.le_refl _, Nat.zero_le _⟩, by omega, (by unfold shB; rw [hBl]), Nat.zero_le _⟩
  have HB := Lib.hid (And.intro hb hBl)
  clear hb hBl
  go_enter Tryd.func38, Tryd.ntmps38
  go_wp2_with fail
  go_loopw [3, 4, 5] (fun s3 s4 a5 wr => ∃ (A : Option Addr) (N c : Nat) (S : Option Addr) (M d told at_ fuel : Nat) (out : List UInt8), s3 = .slice A N c ∧ s4 = .slice S M d ∧ a5 = .int .i64 (at_ : Nat) ∧ Hid (RfSt w wr n B A N c S M d told at_ fuel out)) (fun _ _ a5 _ => n - (intOf a5).toNat)
  case atStart => exact ⟨none, 0, 0, none, 0, 0, 0, 0, n + 1, [], rfl, rfl, rfl, H0⟩
  case round =>
    clear H0
    obtain ⟨A, N, c, S, M, d, told, at_, fuel, out, rfl, rfl, rfl, HS⟩ := hrel
    have hle := HS.out.le
    have hfew := HS.out.few
    have hol : out.length = N := by have := HS.out.own.len; rwa [bv_len] at this
    have hsl : at_ - told = M := by have := HS.out.own2.len; rw [bv_len, List.length_take, List.length_drop] at this; have := HB.out.2; omega
    have hws := HS.out.below.size
    have hN : N ≤ 16777216 := by omega
    have hM : M ≤ 1048576 := by omega
    by_cases hlt : at_ < n
    · have hai : (at_ : Int) < (n : Int) := by omega
      have hrd := HB.out.1.below HS.out.below hC
      have hlg := refLongest_any A0 n c0 C at_ B _ hrd hlt hn
      obtain ⟨fu, rfl⟩ : ∃ fu, fuel = fu + 1 := ⟨fuel - 1, by have := HS.out.fu; omega⟩
      have heq2 : shA B (fu + 1) at_ told out = if B.length ≤ at_ then out ++ lits (B.drop told) else if (longest B at_).1 = 0 then shA B fu (at_ + 1) told out
        else shA B fu (at_ + (longest B at_).1) (at_ + (longest B at_).1) (out ++ lits ((B.drop told).take (at_ - told)) ++ [UInt8.ofNat ((longest B at_).1 + 125)] ++ numB (longest B at_).2) := rfl
      rw [HS.out.eq, if_neg (by have := HB.out.2; omega)] at heq2
      have hok := longest_ok B at_
      have hbl := best_longest B at_
      obtain ⟨L1, hL1⟩ : ∃ L1, (best B at_ (min 512 at_)).1 = L1 := ⟨_, rfl⟩
      obtain ⟨L2, hL2⟩ : ∃ L2, (best B at_ (min 512 at_)).2 = L2 := ⟨_, rfl⟩
      rw [hL1, hL2] at hlg
      have HLG := Lib.hid hlg
      rcases hbl with ⟨b1, b2⟩ | ⟨b1, b2⟩
      · rw [b2, if_pos rfl] at heq2
        have hL3 : (L1 : Int) < 3 := by omega
        have HE := Lib.hid heq2
        obtain ⟨g, off, hA0, hg, hcell⟩ := hrd.addr (by omega)
        subst hA0
        have hcl := hcell at_ hlt
        rw [bv_at B at_ (by have := HB.out.2; omega)] at hcl
        have hgl := cell_lt hcl
        have htk : (B.drop told).take (at_ + 1 - told) = (B.drop told).take (at_ - told) ++ [B[at_]'(by have := HB.out.2; omega)] := by
          rw [show at_ + 1 - told = (at_ - told) + 1 by omega, List.take_succ_eq_append_getElem (by rw [List.length_drop]; have := HB.out.2; omega), List.getElem_drop]
          congr 3
          omega
        generalize B[at_]'(by have := HB.out.2; omega) = y at *
        have HT := Lib.hid htk
        clear hlg heq2 hok hL1 hL2 b1 b2 htk hrd hcell
        have hcl2 : ∀ z, Below wr.heap.size wr z → z.cell? ⟨g, off + at_, none⟩ = some (.int .u8 (y.toNat : Int)) := fun z hz => (hz.cell (p := ⟨g, off + at_, none⟩) hgl).trans hcl
        have HCL := Lib.hid hcl2
        clear hcl2 hcl
        go_wp2_with (first
          | (go_at_call 61; refine (HLG.out).mono ?_; rintro en w2 ⟨rfl, hb2⟩; have hcl := HCL.out _ hb2; have HB2 := Lib.hid hb2; have hz2 := hb2.size; clear hb2)
          | (at_builtin; refine wp_app u8ty rfl (.tmp 20) (.tmp 25) rfl rfl rfl ((HS.out.own2.below HB2.out (Nat.le_refl _)).alloc _) (Rd.one _ _ _) (one1 rfl) (by omega) (by omega) (by simp; omega) ?_; intro S4 M4 d4 w4 ho4 hN4 hb4 hg4)
          | fail)
        go_roundw
        case rel =>
          have hoA := ((HS.out.own.below HB2.out (Nat.le_refl _)).alloc (.cells #[.int .u8 (y.toNat : Int)] 5)).kept hg4.1 (by
            cases hA : blk A with
            | none => exact Or.inl rfl
            | some k => exact Or.inr (fun e => HS.out.dis k hA e.symm))
          have e1 : bv ((B.drop told).take (at_ - told)) ++ [Value.int .u8 (y.toNat : Int)] = bv ((B.drop told).take (at_ + 1 - told)) := by
            rw [HT.out, bv_app]
            rfl
          rw [e1] at ho4
          have hbb : Below w.heap.size w w4 := HS.out.below.trans ((HB2.out.mono hws).trans (((Below.refl _ w2).alloc (by omega) _).trans hb4))
          refine ⟨A, N, c, S4, M4, d4, told, at_ + 1, fu, out, rfl, rfl, by go_num, Lib.hid ⟨hoA, ho4, fun k hk hs => ?_, hbb, ⟨by omega, by omega⟩, by have := HS.out.fu; omega, HE.out.symm, hfew⟩⟩
          rcases hg4.2 with h5 | ⟨q, h5, h6⟩
          · exact HS.out.dis k hk (h5 ▸ hs)
          · have h7 := (HS.out.own.blk_lt k hk).2
            rw [h6] at hs
            injection hs with hs
            simp at h5
            omega
        case measure => simp only [intOf]; omega
      · rw [b2, if_neg (by omega), hL1, hL2] at heq2
        have hL3 : ¬ (L1 : Int) < 3 := by omega
        have hok2 : L1 ≤ 66 ∧ at_ + L1 ≤ n ∧ L2 ≤ 512 := by
          rw [b2, hL1, hL2] at hok
          have := HB.out.2
          rcases hok with h | h
          · have h2 := congrArg Prod.fst h; rw [hL1] at h2; simp at h2; omega
          · omega
        have HE := Lib.hid heq2
        clear hlg heq2 hok b2 hL1 hL2 hrd
        go_wp2_with (first
          | (go_at_call 61; refine (HLG.out).mono ?_; rintro en w2 ⟨rfl, hb2⟩; have HB2 := Lib.hid (And.intro (hb2.mono hws) (And.intro (HS.out.own.below hb2 (Nat.le_refl _)) (HS.out.own2.below hb2 (Nat.le_refl _)))); have hz2 := hb2.size; clear hb2)
          | (go_at_call 62; refine (plain_any S M d w2.heap.size _ w2 HB2.out.2.2.rd (Nat.le_refl _) HB2.out.2.2.cap.1 hM).mono ?_; rintro en w3 ⟨A3, N3, c3, rfl, ho3, hb3⟩; have HB3 := Lib.hid (And.intro (HB2.out.1.trans (hb3.mono (by omega))) (And.intro (HB2.out.2.1.below hb3 (Nat.le_refl _)) ho3)); have hz3 := hb3.size; have hN3 : N3 ≤ 2097152 := (by have h9 := ho3.len; rw [bv_len] at h9; have h8 := lits_le _ ((B.drop told).take (at_ - told)) (Nat.le_refl _); rw [List.length_take] at h8; omega); clear ho3 hb3)
          | (at_builtin; refine wp_app u8ty rfl (.tmp 29) (.tmp 31) rfl rfl rfl HB3.out.2.1 HB3.out.2.2.rd (bv_one _) (by omega) (by omega) (by omega) ?_; intro A4 N4 c4 w4 ho4 hN4 hb4 _; rw [← bv_app] at ho4; have HB4 := Lib.hid (And.intro (HB3.out.1.trans hb4) ho4); have hz4 := hb4.size; clear ho4 hb4)
          | (at_builtin; refine wp_app u8ty rfl (.tmp 33) (.tmp 37) rfl rfl rfl (HB4.out.2.alloc _) (Rd.one _ _ _) (one1 rfl) (by omega) (by omega) (by simp; omega) ?_; intro A5 N5 c5 w5 ho5 hN5 hb5 _; have HB5 := Lib.hid (And.intro (HB4.out.1.trans (((Below.refl w.heap.size w4).alloc (by omega) _).trans hb5)) ho5); have hz5 : w4.heap.size ≤ w5.heap.size := (Nat.le_trans (by simp) hb5.size); clear ho5 hb5)
          | (go_at_call 44; refine (refNumber_any A5 N5 c5 w5.heap.size (L2 : Nat) (out ++ lits ((B.drop told).take (at_ - told)) ++ [UInt8.ofNat (L1 + 125)]) w5 (by have h := HB5.out.2.rd; rw [u8_app (out ++ lits ((B.drop told).take (at_ - told))) L1 (by omega), ← bv_app] at h; exact h) (Nat.le_refl _) (by omega) (by omega) (by omega)).mono ?_; rintro en w6 ⟨A6, N6, c6, rfl, ho6, hb6⟩)
          | fail)
        go_roundw
        case rel =>
          have hfw : (out ++ lits ((B.drop told).take (at_ - told)) ++ [UInt8.ofNat (L1 + 125)] ++ numB L2).length ≤ 16 * (at_ + L1) := by
            have h8 := lits_le _ ((B.drop told).take (at_ - told)) (Nat.le_refl _)
            have h9 := numB_le L2
            rw [List.length_take] at h8
            simp only [List.length_append, List.length_singleton]
            omega
          rw [Int.toNat_natCast] at ho6
          exact ⟨A6, N6, c6, none, 0, 0, at_ + L1, at_ + L1, fu, _, rfl, rfl, by go_num, Lib.hid ⟨ho6.base (by omega), (by rw [Nat.sub_self, List.take_zero]; exact Ow.nil _ _ _), (fun k _ hs => by cases hs), HS.out.below.trans (HB5.out.1.trans (hb6.mono (by omega))), ⟨Nat.le_refl _, hok2.2.1⟩, by have := HS.out.fu; omega, HE.out.symm, hfw⟩⟩
        case measure => simp only [intOf]; omega
    · have hai : ¬ (at_ : Int) < (n : Int) := by omega
      obtain rfl : at_ = n := by omega
      have heq := HS.out.eq
      rw [shA_end B fuel at_ told out (by have := HB.out.2; omega)] at heq
      have htk : (B.drop told).take (at_ - told) = B.drop told := List.take_of_length_le (by rw [List.length_drop]; have := HB.out.2; omega)
      have ho2 := HS.out.own2
      rw [htk] at ho2
      have HE := Lib.hid (And.intro heq ho2)
      clear heq ho2 htk
      go_wp2_with (first
        | (go_at_call 62; refine (plain_any S M d _ _ _ HE.out.2.rd (Nat.le_refl _) HE.out.2.cap.1 hM).mono ?_; rintro en w3 ⟨A3, N3, c3, rfl, ho3, hb3⟩; have HB3 := Lib.hid (And.intro (hb3.mono hws) (And.intro (HS.out.own.below hb3 (Nat.le_refl _)) ho3)); have hz3 := hb3.size; have hN3 : N3 ≤ 2097152 := (by have h9 := ho3.len; rw [bv_len] at h9; have h8 := lits_le _ (B.drop told) (Nat.le_refl _); rw [List.length_drop] at h8; have := HB.out.2; omega); clear ho3 hb3)
        | (at_builtin; refine wp_app u8ty rfl (.tmp 44) (.tmp 46) rfl rfl rfl HB3.out.2.1 HB3.out.2.2.rd (bv_one _) (by omega) (by omega) (by omega) ?_; intro A4 N4 c4 w4 ho4 hN4 hb4 _)
        | fail)
      go_ret
      rw [← bv_app, HE.out.1] at ho4
      exact ⟨A4, N4, c4, rfl, ho4, HS.out.below.trans (HB3.out.1.trans hb4)⟩
end Go.Proofs.YtbcgnacfhpahkaaDoor.lz
namespace Go.Proofs.YtbcgnacfhpahkaaDoor.rc
set_option maxRecDepth 20000
open Go.RowKit Go.Shelf Mem OM LM DM oct
set_option linter.unusedVariables false
set_option linter.unusedSimpArgs false
attribute [local go_sem] Oper.semAt_some
set_option maxHeartbeats 4000000 in
theorem refSame_any (K S : Int) (d : List UInt8) (hd : d.length = 32) (A1 A2 : Option Addr) (n1 c1 n2 c2 B : Nat) (x : List UInt8) (w : World) (h1 : Rd w B A1 n1 (bv x)) (h2 : Rd w B A2 n2 (bv x)) (hB : B ≤ w.heap.size) :
    Calls Tryd.prog 20 #[.agg (recL K S d A1 n1 c1).toArray, .agg (recL K S d A2 n2 c2).toArray] w fun e w' => e = .returned (.bool true) ∧ Below w.heap.size w w' := by
  have hg1 := dg.range_new w (recL K S d A1 n1 c1) 26
  have hb1 : Below w.heap.size w (w.alloc (.cells (recL K S d A1 n1 c1).toArray 26)) := (Below.refl _ _).alloc (Nat.le_refl _) _
  have hs1 : (w.alloc (.cells (recL K S d A1 n1 c1).toArray 26)).heap.size = w.heap.size + 1 := by simp
  obtain ⟨RA1, hRA1⟩ : ∃ z, (recL K S d A1 n1 c1).toArray = z := ⟨_, rfl⟩
  rw [hRA1] at hg1 hb1 hs1 ⊢
  obtain ⟨W1, hW1⟩ : ∃ z, w.alloc (.cells RA1 26) = z := ⟨_, rfl⟩
  rw [hW1] at hg1 hb1 hs1
  have hg2 := dg.range_new W1 (recL K S d A2 n2 c2) 26
  have hb2 : Below W1.heap.size W1 (W1.alloc (.cells (recL K S d A2 n2 c2).toArray 26)) := (Below.refl _ _).alloc (Nat.le_refl _) _
  have hs2 : (W1.alloc (.cells (recL K S d A2 n2 c2).toArray 26)).heap.size = W1.heap.size + 1 := by simp
  obtain ⟨RA2, hRA2⟩ : ∃ z, (recL K S d A2 n2 c2).toArray = z := ⟨_, rfl⟩
  rw [hRA2] at hg2 hb2 hs2 ⊢
  obtain ⟨W2, hW2⟩ : ∃ z, W1.alloc (.cells RA2 26) = z := ⟨_, rfl⟩
  rw [hW2] at hg2 hb2 hs2
  have hg12 := dg.range_below hg1 hb2 (by rw [hs1]; exact Nat.lt_succ_self _)
  have hbW : Below w.heap.size w W2 := hb1.trans (hb2.mono hb1.size)
  have a0 : W2.cell? ⟨w.heap.size, 0, none⟩ = some (.int .i64 K) := hg12 0 _ rfl
  have a1 : W2.cell? ⟨w.heap.size, 1, none⟩ = some (.int .i64 S) := hg12 1 _ rfl
  have a34 : W2.cell? ⟨w.heap.size, 34, none⟩ = some (.slice A1 n1 c1) := by have := hg12 34 _ (recL_34 hd); rwa [Nat.zero_add] at this
  have e0 : W2.cell? ⟨W1.heap.size, 0, none⟩ = some (.int .i64 K) := hg2 0 _ rfl
  have e1 : W2.cell? ⟨W1.heap.size, 1, none⟩ = some (.int .i64 S) := hg2 1 _ rfl
  have e34 : W2.cell? ⟨W1.heap.size, 34, none⟩ = some (.slice A2 n2 c2) := by have := hg2 34 _ (recL_34 hd); rwa [Nat.zero_add] at this
  have s1 := rec_sum hg12
  have s2 := rec_sum hg2
  have r1 := run_string Tryd.underlying24 Tryd.underlying5 Tryd.underlying9 (h1.below hbW hB) c1
  have r2 := run_string Tryd.underlying24 Tryd.underlying5 Tryd.underlying9 (h2.below hbW hB) c2
  have hinfS : (Tryd.prog.info? 23).map (·.size) = some (bv d).length := by rw [bv_len, hd]; kernel_rfl
  have heq := fun y => dg.sum_eql d d hd hd y
  rw [decide_eq_true rfl] at heq
  obtain ⟨DA, hDA⟩ : ∃ z, (bv d).toArray = z := ⟨_, rfl⟩
  simp only [hDA] at heq
  have hk : (K == K) = true := beq_self_eq_true K
  have hss : (S == S) = true := beq_self_eq_true S
  have HDA := Lib.hid hDA
  have HW := Lib.hid (And.intro hW1 hW2)
  have HBW := Lib.hid hbW
  clear hDA hg1 hg2 hg12 hb1 hb2 hs1 hs2 h1 h2 hRA1 hRA2 hbW
  go_enter Tryd.func20, Tryd.ntmps20
  go_upto_region 1 with fail
  try rw [HW.out.1]
  try rw [HW.out.2]
  go_wp2_with (first
    | (refine wpList_load_mid_g rfl 23 (.tmp 18) rfl w.heap.size 2 rfl (bv d) _ s1 Tryd.underlying23 rfl hinfS ?_; rw [HDA.out])
    | (refine wpList_load_mid_g rfl 23 (.tmp 20) rfl W1.heap.size 2 rfl (bv d) _ s2 Tryd.underlying23 rfl hinfS ?_; rw [HDA.out])
    | fail)
  go_ret
  exact ⟨by simp, HBW.out⟩
end Go.Proofs.YtbcgnacfhpahkaaDoor.rc
namespace Go.Proofs.YtbcgnacfhpahkaaDoor.rc
set_option maxRecDepth 20000
open Go.RowKit Mem OM LM DM
set_option linter.unusedVariables false
set_option linter.unusedSimpArgs false
attribute [local go_sem] Oper.semAt_some
theorem range_sum {K S : Int} {d d' : List UInt8} {A : Option Addr} {n c : Nat} {w : World} {g : Nat} (hd : d.length = 32) (hd' : d'.length = 32) (h : w.rangeAt g 0 (recL K S d A n c)) (ht : w.there g 0 35) :
    (w.setCells g 2 (bv d')).rangeAt g 0 (recL K S d' A n c) := by
  have hb : (bv d').length = 32 := by rw [bv_len, hd']
  have hb0 : (bv d).length = 32 := by rw [bv_len, hd]
  have hs : (w.setCells g 2 (bv d')).rangeAt g 2 (bv d') := World.rangeAt_setCells_same w g 2 _ (fun j hj => by
    have := ht (2 + j) (by omega)
    rwa [Nat.zero_add] at this)
  intro j v hj
  have hlen := (List.getElem?_eq_some_iff.1 hj).1
  rw [recL_len hd'] at hlen
  by_cases h2 : j < 2
  · refine (World.cell?_setCells_out g _ 2 w _ (fun _ _ => Or.inl (by simp; omega))).trans (h j v ?_)
    match j, h2 with
    | 0, _ => exact hj
    | 1, _ => exact hj
  · by_cases h3 : j < 34
    · have := hs (j - 2) v (by
        obtain ⟨k, rfl⟩ : ∃ k, j = k + 1 + 1 := ⟨j - 2, by omega⟩
        unfold recL at hj
        rw [List.getElem?_cons_succ, List.getElem?_cons_succ, List.getElem?_append_left (by omega)] at hj
        simpa using hj)
      rwa [show 2 + (j - 2) = 0 + j by omega] at this
    · obtain rfl : j = 34 := by omega
      refine (World.cell?_setCells_out g _ 2 w _ (fun _ _ => Or.inr (by simp; omega))).trans (h 34 v ?_)
      rw [recL_34 hd'] at hj
      rw [recL_34 hd]
      exact hj
theorem MkAt.sum {w W : World} {g2 : Nat} {K S : Int} {d d' : List UInt8} {A : Option Addr} {n c : Nat} (hd : d.length = 32) (hd' : d'.length = 32) (h : MkAt w W g2 (recL K S d A n c)) : MkAt w (W.setCells g2 2 (bv d')) g2 (recL K S d' A n c) :=
  ⟨range_sum hd hd' h.range h.th2, World.there_setCells h.th2 _ _ _, World.there_setCells h.th _ _ _, (dg.Keep1.sets g2 (bv d') 2 W).below h.below h.below.size (Nat.le_of_lt h.lt.1), h.lt.1, by rw [dg.setCells_size]; exact h.lt.2⟩
theorem MkAt.one {w W : World} {g2 : Nat} {R : List Value} (h : MkAt w W g2 R) (i : Nat) (v : Value) : MkAt w (W.setCell ⟨g2, i, none⟩ v) g2 (R.set i v) :=
  ⟨range_set1 h.range i v, there_set1 h.th2 _ _ _, there_set1 h.th _ _ _, (dg.Keep1.set W g2 i v).below h.below h.below.size (Nat.le_of_lt h.lt.1), h.lt.1, by rw [World.size_setCell]; exact h.lt.2⟩
theorem MkAt.there_sum {w W : World} {g2 : Nat} {R : List Value} (h : MkAt w W g2 R) : W.there g2 2 32 := fun j hj => by
  have := h.th2 (2 + j) (by omega)
  rwa [Nat.zero_add] at this
theorem mk_at0 (w : World) (t : TypeId) : MkAt w (((w.alloc (.cells recZ.toArray t)).alloc (.cells recZ.toArray t)).setCells (w.alloc (.cells recZ.toArray t)).heap.size 0 recZ) (w.alloc (.cells recZ.toArray t)).heap.size recZ := by
  obtain ⟨W, hW⟩ : ∃ z, w.alloc (.cells recZ.toArray t) = z := ⟨_, rfl⟩
  have hs : W.heap.size = w.heap.size + 1 := by rw [← hW]; simp
  have hb : Below w.heap.size w W := by rw [← hW]; exact (Below.refl _ _).alloc (Nat.le_refl _) _
  have ht := dg.there_new w recZ t
  rw [hW, recZ_len] at ht
  rw [hW]
  have ht2 := dg.there_new W recZ t
  rw [recZ_len] at ht2
  have hb2 : Below W.heap.size W (W.alloc (.cells recZ.toArray t)) := (Below.refl _ _).alloc (Nat.le_refl _) _
  refine ⟨World.rangeAt_setCells_same _ _ 0 recZ (by rw [recZ_len]; exact ht2), World.there_setCells ht2 _ _ _, World.there_setCells (dg.there_below ht hb2 (by omega) (by omega)) _ _ _, (dg.Keep1.sets W.heap.size recZ 0 _).below (hb.trans (hb2.mono (by omega))) (by simp; omega) (by omega), by omega, ?_⟩
  rw [dg.setCells_size]
  simp
theorem recL_set1 {K S S' : Int} {d : List UInt8} {A : Option Addr} {n c : Nat} : (recL K S d A n c).set 1 (.int .i64 S') = recL K S' d A n c := rfl
theorem z32_32 : z32.length = 32 := z32_len
set_option maxHeartbeats 2000000 in
theorem refMake_bad (A0 : Option Addr) (n c0 : Nat) (known : Bool) (w : World) (hn : n = 0 ∨ 256 < n) :
    Calls Tryd.prog 19 #[.slice A0 n c0, .bool known] w (MadeR w 0 0 z32 [] 100) := by
  have hM1 := mk_at0 w 26
  have hb0 : Below w.heap.size w (w.alloc (.cells recZ.toArray 26)) := (Below.refl _ _).alloc (Nat.le_refl _) _
  unfold MadeR
  go_enter Tryd.func19, Tryd.ntmps19
  go_upto_region 1 with fail
  show Code.wp _ _ _ _ (w.alloc (.cells recZ.toArray 26))
  obtain ⟨W0, hW0⟩ : ∃ z, w.alloc (.cells recZ.toArray 26) = z := ⟨_, rfl⟩
  rw [hW0] at hM1 hb0 ⊢
  clear hW0
  have hbz := fun y => build_zero y
  have ht0 := rec_zero_there W0
  have HONE : ∀ v ∈ recZ, v.oneCell' = true := rec_one
  have hzl := recZ_len
  obtain ⟨ZL, hZL⟩ : ∃ ZL, recZ = ZL := ⟨_, rfl⟩
  rw [hZL] at hM1 HONE hzl
  simp only [hZL] at hbz hM1
  obtain ⟨ZA, hZA⟩ : ∃ ZA, ZL.toArray = ZA := ⟨_, rfl⟩
  simp only [hZA] at hbz
  have HIZ : (Tryd.prog.info? 26).map (·.size) = some ZA.size := by rw [← hZA, List.size_toArray, hzl]; exact info_rec
  have hth : (W0.alloc (.cells recZ.toArray 26)).there W0.heap.size 0 ZA.size := by rw [← hZA]; show World.there _ _ _ ZL.length; rw [hzl]; exact ht0
  have hone : ZA.all (·.oneCell') = true := by rw [← hZA]; exact all_oneCell_toArray HONE
  have hZAL : ZA.toList = ZL := by rw [← hZA]
  have HZ := Lib.hid (And.intro hZL.symm hZA)
  clear hZL hZA ht0
  go_upto_region 2 with (first
    | (refine lz.wp_build rfl _ _ rfl (.agg ZA) (by simp only [List.map_toArray, List.map_nil]; exact hbz _) ?_)
    | (refine wpList_store_mid rfl 26 (.tmp 6) (.tmp 8) rfl W0.heap.size 0 ZA rfl rfl hth HIZ hone ?_)
    | fail)
  show Code.wp _ _ _ _ ((W0.alloc (.cells recZ.toArray 26)).setCells W0.heap.size 0 ZA.toList)
  rw [hZAL]
  simp only [HZ.out.1] at hM1 ⊢
  obtain ⟨W1, hW1⟩ : ∃ z, (W0.alloc (.cells recZ.toArray 26)).setCells W0.heap.size 0 recZ = z := ⟨_, rfl⟩
  rw [hW1] at hM1 ⊢
  rw [← HZ.out.1] at hM1
  obtain ⟨g, hg⟩ : ∃ z, W0.heap.size = z := ⟨_, rfl⟩
  rw [hg] at hM1 ⊢
  have hrr := fun (y : World) (hy : y.there w.heap.size 0 35) => World.rangeAt_setCells_same y w.heap.size 0 ZL (by rw [hzl]; exact hy)
  have h1 := hM1.th
  have hrx := hM1.range
  have hinfZ : (Tryd.prog.info? 26).map (·.size) = some ZL.length := by rw [hzl]; exact info_rec
  have HM1 := Lib.hid hM1
  clear hM1
  rcases hn with h0 | h256
  · subst h0
    go_wp2_with (first
      | (refine wpList_load_mid rfl 26 (.tmp 6) rfl g 0 rfl ZL _ hrx Tryd.underlying26 rfl hinfZ ?_; rw [HZ.out.2])
      | (refine wpList_store_mid rfl 26 (.tmp 4) (.tmp 17) rfl w.heap.size 0 ZA rfl rfl (by rw [← HZ.out.2]; show World.there _ _ _ ZL.length; rw [hzl]; exact h1) HIZ hone ?_; rw [hZAL])
      | fail)
    try simp only [Exit.inBlock, Exit.then]
    refine bodyPost_ret (lz.results_ct rfl _ ⟨w.heap.size, 0, none⟩ _ rfl (run_loadVar_mid (P := Tryd.prog) _ w.heap.size 0 26 ZL _ (hrr _ h1) Tryd.underlying26 rfl hinfZ)) rfl ?_
    exact ⟨none, 0, 0, by rw [HZ.out.1]; rfl, Ow.nil _ _ _, (dg.Keep1.sets w.heap.size ZL 0 W1).below HM1.out.below HM1.out.below.size (Nat.le_refl _)⟩
  · have hi : (256 : Int) < n := by omega
    have hb0 : ((n : Int) == 0) = false := beq_eq_false_iff_ne.2 (by omega)
    go_wp2_with (first
      | (refine wpList_load_mid rfl 26 (.tmp 6) rfl g 0 rfl ZL _ hrx Tryd.underlying26 rfl hinfZ ?_; rw [HZ.out.2])
      | (refine wpList_store_mid rfl 26 (.tmp 4) (.tmp 17) rfl w.heap.size 0 ZA rfl rfl (by rw [← HZ.out.2]; show World.there _ _ _ ZL.length; rw [hzl]; exact h1) HIZ hone ?_; rw [hZAL])
      | fail)
    try simp only [Exit.inBlock, Exit.then]
    refine bodyPost_ret (lz.results_ct rfl _ ⟨w.heap.size, 0, none⟩ _ rfl (run_loadVar_mid (P := Tryd.prog) _ w.heap.size 0 26 ZL _ (hrr _ h1) Tryd.underlying26 rfl hinfZ)) rfl ?_
    exact ⟨none, 0, 0, by rw [HZ.out.1]; rfl, Ow.nil _ _ _, (dg.Keep1.sets w.heap.size ZL 0 W1).below HM1.out.below HM1.out.below.size (Nat.le_refl _)⟩
set_option maxHeartbeats 4000000 in
theorem refMake_any (A0 : Option Addr) (n c0 B : Nat) (l : List UInt8) (known : Bool) (w : World) (h : Rd w B A0 n (bv l)) (hB : B ≤ w.heap.size) (hc : n ≤ c0) (hT : dg.Tab w) (hn1 : 1 ≤ n) (hn2 : n ≤ 256) :
    Calls Tryd.prog 19 #[.slice A0 n c0, .bool known] w (MadeR w (if known then 1 else mkK l) (n : Nat) (digest l) (if known then [] else mkD l) 0) := by
  have hl : l.length = n := by rw [← h.len, bv_len]
  have hd := digest_len l
  have hM1 := mk_at0 w 26
  have hb0 : Below w.heap.size w (w.alloc (.cells recZ.toArray 26)) := (Below.refl _ _).alloc (Nat.le_refl _) _
  unfold MadeR
  go_enter Tryd.func19, Tryd.ntmps19
  go_upto_region 1 with fail
  show Code.wp _ _ _ _ (w.alloc (.cells recZ.toArray 26))
  obtain ⟨W0, hW0⟩ : ∃ z, w.alloc (.cells recZ.toArray 26) = z := ⟨_, rfl⟩
  rw [hW0] at hM1 hb0 ⊢
  clear hW0
  have hbz := fun y => build_zero y
  have ht0 := rec_zero_there W0
  have HONE : ∀ v ∈ recZ, v.oneCell' = true := rec_one
  have hzl := recZ_len
  obtain ⟨ZL, hZL⟩ : ∃ ZL, recZ = ZL := ⟨_, rfl⟩
  rw [hZL] at hM1 HONE hzl
  simp only [hZL] at hbz hM1
  obtain ⟨ZA, hZA⟩ : ∃ ZA, ZL.toArray = ZA := ⟨_, rfl⟩
  simp only [hZA] at hbz
  have HIZ : (Tryd.prog.info? 26).map (·.size) = some ZA.size := by rw [← hZA, List.size_toArray, hzl]; exact info_rec
  have hth : (W0.alloc (.cells recZ.toArray 26)).there W0.heap.size 0 ZA.size := by rw [← hZA]; show World.there _ _ _ ZL.length; rw [hzl]; exact ht0
  have hone : ZA.all (·.oneCell') = true := by rw [← hZA]; exact all_oneCell_toArray HONE
  have hZAL : ZA.toList = ZL := by rw [← hZA]
  have HZ := Lib.hid (And.intro hZL.symm hZA)
  clear hZL hZA ht0
  go_upto_region 2 with (first
    | (refine lz.wp_build rfl _ _ rfl (.agg ZA) (by simp only [List.map_toArray, List.map_nil]; exact hbz _) ?_)
    | (refine wpList_store_mid rfl 26 (.tmp 6) (.tmp 8) rfl W0.heap.size 0 ZA rfl rfl hth HIZ hone ?_)
    | fail)
  show Code.wp _ _ _ _ ((W0.alloc (.cells recZ.toArray 26)).setCells W0.heap.size 0 ZA.toList)
  rw [hZAL]
  simp only [HZ.out.1] at hM1 ⊢
  obtain ⟨W1, hW1⟩ : ∃ z, (W0.alloc (.cells recZ.toArray 26)).setCells W0.heap.size 0 recZ = z := ⟨_, rfl⟩
  rw [hW1] at hM1 ⊢
  rw [← HZ.out.1] at hM1
  obtain ⟨g, hg⟩ : ∃ z, W0.heap.size = z := ⟨_, rfl⟩
  rw [hg] at hM1 ⊢
  have hib : ((n : Int) == 0) = false := beq_eq_false_iff_ne.2 (by omega)
  have hi2 : ¬ (256 : Int) < n := by omega
  have hM1' : MkAt w W1 g (recL 0 0 z32 none 0 0) := by rw [show recL 0 0 z32 none 0 0 = ZL by rw [HZ.out.1]; rfl]; exact hM1
  have hM2 := hM1'.one 1 (.int .i64 (n : Nat))
  rw [recL_set1] at hM2
  have c1 : W1.cell? ⟨g, 1, none⟩ = some (.int .i64 0) := hM1'.range 1 _ rfl
  have z1 : W1.frozen? ⟨g, 1, none⟩ = false := (hM1'.th2 1 (by omega)).2
  obtain ⟨W2, hW2⟩ : ∃ z, W1.setCell ⟨g, 1, none⟩ (.int .i64 (n : Nat)) = z := ⟨_, rfl⟩
  rw [hW2] at hM2
  have hB2 := Nat.le_trans hB hM2.below.size
  have hqk := dg.refQuick_any A0 n c0 B l W2 (h.below hM2.below hB) hB2 (by omega)
  have HL := Lib.hid (And.intro hl (And.intro hd (And.intro h hT)))
  obtain ⟨DA, hDA⟩ : ∃ z, (bv (digest l)).toArray = z := ⟨_, rfl⟩
  rw [hDA] at hqk
  have hszD : DA.size = 32 := by rw [← hDA, List.size_toArray, bv_len, hd]
  have honeD : DA.all (·.oneCell') = true := by rw [← hDA]; exact all_oneCell_toArray (bv_one _)
  have hinfD : (Tryd.prog.info? 23).map (·.size) = some DA.size := by rw [hszD]; kernel_rfl
  have HDA := Lib.hid hDA
  have HQK := Lib.hid hqk
  have HM2 := Lib.hid hM2
  have hDAL : DA.toList = bv (digest l) := by rw [← hDA]
  clear hl hd h hT hDA hqk hM1 hM1' hM2
  go_upto_region 5 with fail
  try rw [hW2]
  clear c1 z1
  go_upto_region 6 with (first
    | (go_at_call 37; refine (HQK.out).mono ?_; rintro e w3 ⟨rfl, hb3⟩; have hth3 : w3.there g 2 DA.size := by (rw [hszD]; exact (HM2.out.later hb3).there_sum))
    | (refine wpList_store_mid rfl 23 (.tmp 23) (.tmp 22) rfl g 2 DA rfl rfl hth3 hinfD honeD ?_; rw [hDAL])
    | fail)
  have hM3 := (HM2.out.later hb3).sum z32_32 HL.out.2.1
  obtain ⟨W4, hW4⟩ : ∃ z, w3.setCells g 2 (bv (digest l)) = z := ⟨_, rfl⟩
  rw [hW4] at hM3 ⊢
  have hsh := lz.refShorten_any A0 n c0 B l W4 (HL.out.2.2.1.below hM3.below hB) (Nat.le_trans hB hM3.below.size) hc (by omega)
  have HSH := Lib.hid hsh
  have HM3 := Lib.hid hM3
  clear hsh hM3 hW4 hth3 hb3 HQK
  go_upto_region 9 with (first
    | (go_at_call 38; refine (HSH.out).mono ?_; rintro e w5 ⟨A5, N5, c5, rfl, ho5, hb5⟩)
    | fail)
  have hN5 : (shB l).length = N5 := by have := ho5.len; rw [bv_len] at this; exact this
  have hM5 := HM3.out.later hb5
  obtain ⟨q0, q1, q34, q35⟩ := hM5.cells HL.out.2.1
  have hs5 : W4.heap.size ≤ w5.heap.size := hb5.size
  have h45 := HM3.out.lt
  have hw4 := HM3.out.below.size
  cases known with
  | true =>
    have hM6 := hM5.one 0 (.int .i64 1)
    rw [rec_set0] at hM6
    have HM5 := Lib.hid hM5
    have HO := Lib.hid (And.intro ho5 (And.intro hN5 hb5))
    clear hM5 ho5 hN5 hb5
    go_upto_region 14 with fail
    obtain ⟨W6, hW6⟩ : ∃ z, w5.setCell ⟨g, 0, none⟩ (.int .i64 1) = z := ⟨_, rfl⟩
    rw [hW6] at hM6 ⊢
    have HO8 := Lib.hid (Ow.nil W6 w.heap.size 5)
    have HM6 := Lib.hid hM6
    have hX35 := recL_len (K := 1) (S := (n : Nat)) (A := none) (n := 0) (c := 0) HL.out.2.1
    have honeX : ∀ v ∈ recL 1 (n : Nat) (digest l) none 0 0, v.oneCell' = true := rec_one
    have hrx := hM6.range
    have htx := hM6.th
    have hrr := World.rangeAt_setCells_same W6 w.heap.size 0 (recL 1 (n : Nat) (digest l) none 0 0) (by rw [hX35]; exact htx)
    obtain ⟨XL, hXL⟩ : ∃ XL, recL 1 (n : Nat) (digest l) none 0 0 = XL := ⟨_, rfl⟩
    rw [hXL] at hX35 honeX hrx hrr HM6
    have hinfX : (Tryd.prog.info? 26).map (·.size) = some XL.length := by rw [hX35]; exact info_rec
    obtain ⟨XA, hXA⟩ : ∃ XA, XL.toArray = XA := ⟨_, rfl⟩
    have hXAL : XA.toList = XL := by rw [← hXA]
    have honeA : XA.all (·.oneCell') = true := by rw [← hXA]; exact all_oneCell_toArray honeX
    have hszX : XA.size = 35 := by rw [← hXA]; exact hX35
    have hinfA : (Tryd.prog.info? 26).map (·.size) = some XA.size := by rw [hszX]; exact info_rec
    have hthA : W6.there w.heap.size 0 XA.size := by rw [hszX]; exact htx
    have HX := Lib.hid (And.intro hXL hXA)
    clear hXL hXA hM6
    go_wp2_with (first
      | (refine wpList_load_mid rfl 26 (.tmp 6) rfl g 0 rfl XL _ hrx Tryd.underlying26 rfl hinfX ?_; rw [HX.out.2])
      | (refine wpList_store_mid rfl 26 (.tmp 4) (.tmp 43) rfl w.heap.size 0 XA rfl rfl hthA hinfA honeA ?_; rw [hXAL])
      | fail)
    try simp only [Exit.inBlock, Exit.then]
    refine bodyPost_ret (lz.results_ct rfl _ ⟨w.heap.size, 0, none⟩ _ rfl (run_loadVar_mid (P := Tryd.prog) _ w.heap.size 0 26 XL _ hrr Tryd.underlying26 rfl hinfX)) rfl ?_
    exact ⟨none, 0, 0, by rw [HX.out.1]; rfl, Ow.nil _ _ _, (dg.Keep1.sets w.heap.size XL 0 W6).below HM6.out.below HM6.out.below.size (Nat.le_refl _)⟩
  | false =>
    by_cases hlt : N5 < n
    · have hlti : (N5 : Int) < (n : Int) := by omega
      have hM6 := hM5.store HL.out.2.1 3 A5 N5 c5
      have ho6 : Ow ((w5.setCell ⟨g, 0, none⟩ (.int .i64 3)).setCell ⟨g, 34, none⟩ (.slice A5 N5 c5)) W4.heap.size 5 A5 N5 c5 (bv (shB l)) := keep_ow ((dg.Keep1.set w5 g 0 (.int .i64 3)).trans (dg.Keep1.set _ g 34 (.slice A5 N5 c5))) ho5 h45.2
      have HO := Lib.hid (And.intro ho6 hN5)
      clear hM5 ho5 hN5 hb5 ho6
      go_upto_region 14 with fail
      obtain ⟨W6, hW6⟩ : ∃ z, (w5.setCell ⟨g, 0, none⟩ (.int .i64 3)).setCell ⟨g, 34, none⟩ (.slice A5 N5 c5) = z := ⟨_, rfl⟩
      rw [hW6] at hM6 HO ⊢
      have HM6 := Lib.hid hM6
      have hX35 := recL_len (K := 3) (S := (n : Nat)) (A := A5) (n := N5) (c := c5) HL.out.2.1
      have honeX : ∀ v ∈ recL 3 (n : Nat) (digest l) A5 N5 c5, v.oneCell' = true := rec_one
      have hrx := hM6.range
      have htx := hM6.th
      have hrr := World.rangeAt_setCells_same W6 w.heap.size 0 (recL 3 (n : Nat) (digest l) A5 N5 c5) (by rw [hX35]; exact htx)
      obtain ⟨XL, hXL⟩ : ∃ XL, recL 3 (n : Nat) (digest l) A5 N5 c5 = XL := ⟨_, rfl⟩
      rw [hXL] at hX35 honeX hrx hrr HM6
      have hinfX : (Tryd.prog.info? 26).map (·.size) = some XL.length := by rw [hX35]; exact info_rec
      obtain ⟨XA, hXA⟩ : ∃ XA, XL.toArray = XA := ⟨_, rfl⟩
      have hXAL : XA.toList = XL := by rw [← hXA]
      have honeA : XA.all (·.oneCell') = true := by rw [← hXA]; exact all_oneCell_toArray honeX
      have hszX : XA.size = 35 := by rw [← hXA]; exact hX35
      have hinfA : (Tryd.prog.info? 26).map (·.size) = some XA.size := by rw [hszX]; exact info_rec
      have hthA : W6.there w.heap.size 0 XA.size := by rw [hszX]; exact htx
      have HX := Lib.hid (And.intro hXL hXA)
      clear hXL hXA hM6
      go_wp2_with (first
        | (refine wpList_load_mid rfl 26 (.tmp 6) rfl g 0 rfl XL _ hrx Tryd.underlying26 rfl hinfX ?_; rw [HX.out.2])
        | (refine wpList_store_mid rfl 26 (.tmp 4) (.tmp 43) rfl w.heap.size 0 XA rfl rfl hthA hinfA honeA ?_; rw [hXAL])
        | fail)
      try simp only [Exit.inBlock, Exit.then]
      refine bodyPost_ret (lz.results_ct rfl _ ⟨w.heap.size, 0, none⟩ _ rfl (run_loadVar_mid (P := Tryd.prog) _ w.heap.size 0 26 XL _ hrr Tryd.underlying26 rfl hinfX)) rfl ?_
      exact ⟨A5, N5, c5, by (try simp only [Bool.false_eq_true, if_false]); rw [mkK_lt l (by rw [HL.out.1, HO.out.2]; exact hlt), HX.out.1]; rfl, by (try simp only [Bool.false_eq_true, if_false]); rw [mkD_lt l (by rw [HL.out.1, HO.out.2]; exact hlt)]; exact (keep_ow (dg.Keep1.sets w.heap.size XL 0 W6) HO.out.1 (Nat.lt_trans h45.1 h45.2)).base hw4, (dg.Keep1.sets w.heap.size XL 0 W6).below HM6.out.below HM6.out.below.size (Nat.le_refl _)⟩
    · have hlti : ¬ (N5 : Int) < (n : Int) := by omega
      have hM6 := hM5.one 0 (.int .i64 2)
      rw [rec_set0] at hM6
      have HO := Lib.hid (And.intro hN5 hb5)
      clear hM5 ho5 hN5 hb5
      go_upto_region 8 with fail
      obtain ⟨V6, hV6⟩ : ∃ z, w5.setCell ⟨g, 0, none⟩ (.int .i64 2) = z := ⟨_, rfl⟩
      rw [hV6] at hM6 ⊢
      have hv6 : W4.heap.size ≤ V6.heap.size := by rw [← hV6, World.size_setCell]; exact hs5
      clear hV6 q0 q1 q34 q35
      have hXb : Below V6.heap.size V6 (V6.alloc (.cells #[] 5)) := (Below.refl _ _).alloc (Nat.le_refl _) _
      have hlit := Ow.lit0 V6 5 (base := V6.heap.size) (Nat.le_refl _)
      have hrd6 := HL.out.2.2.1.below hM6.below hB
      have hv0 := hM6.below.size
      have HV := Lib.hid hM6
      have HXB := Lib.hid hXb
      clear hM6
      go_upto_region 14 with (first
        | (at_builtin; refine wp_app oct.u8ty rfl (.tmp 27) (.tmp 28) rfl rfl rfl hlit (hrd6.below hXb (by omega)) (bv_one _) (by omega) (by omega) (by simp) ?_; intro A7 N7 c7 w7 ho7 hN7 hb7 hg7; obtain ⟨p0, p1, p34, p35⟩ := (HV.out.later (HXB.out.trans hb7)).cells HL.out.2.1)
        | fail)
      rw [List.nil_append] at ho7
      have hM7 := HV.out.later (HXB.out.trans hb7)
      have hM6 := hM7.one 34 (.slice A7 N7 c7)
      rw [rec_set34 HL.out.2.1] at hM6
      have ho8 : Ow (w7.setCell ⟨g, 34, none⟩ (.slice A7 N7 c7)) V6.heap.size 5 A7 N7 c7 (bv l) := keep_ow (dg.Keep1.set w7 g 34 (.slice A7 N7 c7)) ho7 (by omega)
      obtain ⟨W6, hW6⟩ : ∃ z, w7.setCell ⟨g, 34, none⟩ (.slice A7 N7 c7) = z := ⟨_, rfl⟩
      rw [hW6] at hM6 ho8 ⊢
      have HO8 := Lib.hid ho8
      clear hW6 p0 p1 p34 p35 ho7 hb7 ho8 hM7 hlit hrd6 hXb hg7
      have HM6 := Lib.hid hM6
      have hX35 := recL_len (K := 2) (S := (n : Nat)) (A := A7) (n := N7) (c := c7) HL.out.2.1
      have honeX : ∀ v ∈ recL 2 (n : Nat) (digest l) A7 N7 c7, v.oneCell' = true := rec_one
      have hrx := hM6.range
      have htx := hM6.th
      have hrr := World.rangeAt_setCells_same W6 w.heap.size 0 (recL 2 (n : Nat) (digest l) A7 N7 c7) (by rw [hX35]; exact htx)
      obtain ⟨XL, hXL⟩ : ∃ XL, recL 2 (n : Nat) (digest l) A7 N7 c7 = XL := ⟨_, rfl⟩
      rw [hXL] at hX35 honeX hrx hrr HM6
      have hinfX : (Tryd.prog.info? 26).map (·.size) = some XL.length := by rw [hX35]; exact info_rec
      obtain ⟨XA, hXA⟩ : ∃ XA, XL.toArray = XA := ⟨_, rfl⟩
      have hXAL : XA.toList = XL := by rw [← hXA]
      have honeA : XA.all (·.oneCell') = true := by rw [← hXA]; exact all_oneCell_toArray honeX
      have hszX : XA.size = 35 := by rw [← hXA]; exact hX35
      have hinfA : (Tryd.prog.info? 26).map (·.size) = some XA.size := by rw [hszX]; exact info_rec
      have hthA : W6.there w.heap.size 0 XA.size := by rw [hszX]; exact htx
      have HX := Lib.hid (And.intro hXL hXA)
      clear hXL hXA hM6
      go_wp2_with (first
        | (refine wpList_load_mid rfl 26 (.tmp 6) rfl g 0 rfl XL _ hrx Tryd.underlying26 rfl hinfX ?_; rw [HX.out.2])
        | (refine wpList_store_mid rfl 26 (.tmp 4) (.tmp 43) rfl w.heap.size 0 XA rfl rfl hthA hinfA honeA ?_; rw [hXAL])
        | fail)
      try simp only [Exit.inBlock, Exit.then]
      refine bodyPost_ret (lz.results_ct rfl _ ⟨w.heap.size, 0, none⟩ _ rfl (run_loadVar_mid (P := Tryd.prog) _ w.heap.size 0 26 XL _ hrr Tryd.underlying26 rfl hinfX)) rfl ?_
      exact ⟨A7, N7, c7, by (try simp only [Bool.false_eq_true, if_false]); rw [mkK_ge l (by rw [HL.out.1, HO.out.1]; exact hlt), HX.out.1]; rfl, by (try simp only [Bool.false_eq_true, if_false]); rw [mkD_ge l (by rw [HL.out.1, HO.out.1]; exact hlt)]; exact (keep_ow (dg.Keep1.sets w.heap.size XL 0 W6) HO8.out (by omega)).base (by omega), (dg.Keep1.sets w.heap.size XL 0 W6).below HM6.out.below HM6.out.below.size (Nat.le_refl _)⟩
end Go.Proofs.YtbcgnacfhpahkaaDoor.rc
namespace Go.Proofs.YtbcgnacfhpahkaaDoor.dg
open Go.RowKit Mem DM
set_option linter.unusedVariables false
theorem own : ownKnob Tryd.prog.godebug = none := by kernel_rfl
theorem laidOut : laidOutB Tryd.prog = true := by kernel_rfl
theorem gRoots : Tryd.prog.globalNamed "flume/digest.roots" = some 0 := by kernel_rfl
theorem gRootsType : (Tryd.prog.globals[0]?).map (·.type) = some 107 := by kernel_rfl
theorem gCubes : Tryd.prog.globalNamed "flume/digest.cubes" = some 1 := by kernel_rfl
theorem gCubesType : (Tryd.prog.globals[1]?).map (·.type) = some 114 := by kernel_rfl
theorem cells8 : Tryd.prog.cellsOf 107 = 8 := by kernel_rfl
theorem cells64 : Tryd.prog.cellsOf 114 = 64 := by kernel_rfl
theorem cellsElem : Tryd.prog.cellsOf 96 = 1 := by kernel_rfl
def intsOf (l : List UInt32) : List Int := l.map fun x => (x.toNat : Int)
theorem range_tab {W : World} {name : String} {g : Nat} (l : List UInt32) (h : Lib.TabIs Tryd.prog W name .u32 (intsOf l)) (hg : Tryd.prog.globalNamed name = some g) : W.rangeAt g 0 (wvs l) := fun j v hj => by
  have hjl : j < l.length := by
    have := (List.getElem?_eq_some_iff.1 hj).1
    rw [wvs_len] at this
    exact this
  have := h.cell hg j (by simpa [intsOf] using hjl)
  rw [Nat.zero_add, this]
  rw [wvs_at l j hjl] at hj
  injection hj with hj
  rw [← hj]
  unfold wv intsOf
  simp [hjl]
theorem table {W : World} {laid : List (String × DataW Unit)} (hl : laid = [("flume/digest.roots", Rows.laid_flume_digest_roots), ("flume/digest.cubes", Rows.laid_flume_digest_cubes)]) (h : laidMetH Tryd.prog laid W) : Tab W := by
  subst hl
  have h' : laidMet Tryd.prog (("flume/digest.roots", Lib.tabData .u32 (intsOf roots)) :: [("flume/digest.cubes", Lib.tabData .u32 (intsOf cubes))]) W := h
  have t1 : Lib.TabIs Tryd.prog W "flume/digest.roots" .u32 (intsOf roots) := Lib.tabIs_of_head gRoots gRootsType Tryd.underlying107 Tryd.underlying96 cellsElem cells8 h'
  have t2 : Lib.TabIs Tryd.prog W "flume/digest.cubes" .u32 (intsOf cubes) := by
    obtain ⟨ps, ⟨g', t', cs, fuel, p, q, hg', ht', hvar, hd, hrest, _⟩, _⟩ := h'
    obtain ⟨g2, t2, cs2, fuel2, p2, q2, hg2, ht2, hvar2, hd2, _, _⟩ := hrest
    obtain rfl := Option.some.inj (gCubes.symm.trans hg2)
    obtain rfl := Option.some.inj (gCubesType.symm.trans ht2)
    unfold Lib.TabIs
    rw [hvar2, ← Lib.cells_of_tab Tryd.underlying114 Tryd.underlying96 cellsElem cells64 hd2]
  exact ⟨range_tab roots t1 gRoots, range_tab cubes t2 gCubes⟩
def laid1 : Obj → Obj
  | .cells _ t frozen => .cells #[.int .u32 1779033703, .int .u32 3144134277, .int .u32 1013904242, .int .u32 2773480762, .int .u32 1359893119, .int .u32 2600822924, .int .u32 528734635, .int .u32 1541459225] t frozen
  | o => o
def laid2 : Obj → Obj
  | .cells _ t frozen => .cells (List.toArray ([.int .u32 1116352408, .int .u32 1899447441, .int .u32 3049323471, .int .u32 3921009573, .int .u32 961987163, .int .u32 1508970993, .int .u32 2453635748, .int .u32 2870763221, .int .u32 3624381080, .int .u32 310598401, .int .u32 607225278, .int .u32 1426881987, .int .u32 1925078388, .int .u32 2162078206, .int .u32 2614888103, .int .u32 3248222580, .int .u32 3835390401, .int .u32 4022224774, .int .u32 264347078, .int .u32 604807628, .int .u32 770255983, .int .u32 1249150122, .int .u32 1555081692, .int .u32 1996064986, .int .u32 2554220882, .int .u32 2821834349, .int .u32 2952996808, .int .u32 3210313671, .int .u32 3336571891, .int .u32 3584528711, .int .u32 113926993, .int .u32 338241895] ++ [.int .u32 666307205, .int .u32 773529912, .int .u32 1294757372, .int .u32 1396182291, .int .u32 1695183700, .int .u32 1986661051, .int .u32 2177026350, .int .u32 2456956037, .int .u32 2730485921, .int .u32 2820302411, .int .u32 3259730800, .int .u32 3345764771, .int .u32 3516065817, .int .u32 3600352804, .int .u32 4094571909, .int .u32 275423344, .int .u32 430227734, .int .u32 506948616, .int .u32 659060556, .int .u32 883997877, .int .u32 958139571, .int .u32 1322822218, .int .u32 1537002063, .int .u32 1747873779, .int .u32 1955562222, .int .u32 2024104815, .int .u32 2227730452, .int .u32 2361852424, .int .u32 2428436474, .int .u32 2756734187, .int .u32 3204031479, .int .u32 3329325298])) t frozen
  | o => o
noncomputable def laidWorld (os : Os) : World :=
  { World.holding Tryd.prog os ⟨#[], #[], []⟩ with heap := ((World.holding Tryd.prog os ⟨#[], #[], []⟩).heap.modify 0 laid1).modify 1 laid2 }
end Go.Proofs.YtbcgnacfhpahkaaDoor.dg
namespace Go.Proofs.YtbcgnacfhpahkaaDoor.rc
set_option maxRecDepth 20000
open Go.RowKit Mem OM LM DM
set_option linter.unusedVariables false
set_option linter.unusedSimpArgs false
attribute [local go_sem] Oper.semAt_some
/-- the numbers that a note of this kind carries -/
def numL (N F P D I : Int) : List Int := if N = 1 then [F, P, D] else if N = 2 ∨ N = 5 ∨ N = 6 then [F, I] else if N = 3 ∨ N = 4 then [F] else []
def nv (l : List Int) : List Value := l.map (Value.int .i64 ·)
/-- a slice of them: none, where there are none -/
def NumPost (w : World) (l : List Int) (e : Ending) (w' : World) : Prop := ∃ A, e = .returned (.slice A l.length l.length) ∧ (l = [] → A = none) ∧ (l ≠ [] → ∃ b, A = some ⟨b, 0, none⟩ ∧ w.heap.size < b ∧ b < w'.heap.size) ∧ Rd w' w'.heap.size A l.length (nv l) ∧ Below w.heap.size w w'
theorem nums_new (w W : World) (g : Nat) (hg : w.heap.size = g) (hb : Below g w W) (hlt : g < W.heap.size) (l : List Int) (t : TypeId) (h : l ≠ []) (fr : Nat × Nat) :
    NumPost w l (.returned (.slice (some ⟨W.heap.size, 0, none⟩) l.length l.length)) (W.alloc (.cells (nv l).toArray t fr)) := by
  have hs : (W.alloc (.cells (nv l).toArray t fr)).heap.size = W.heap.size + 1 := by simp
  subst hg
  refine ⟨_, rfl, fun e => absurd e h, fun _ => ⟨_, rfl, hlt, by rw [hs]; omega⟩, ?_, hb.alloc (Nat.le_of_lt hlt) _⟩
  have := lz.rd_alloc W t (nv l) fr
  rw [hs]
  rwa [show (nv l).length = l.length by simp [nv]] at this
set_option maxHeartbeats 4000000 in
theorem refNumbers_any (N F P D I K S : Int) (d : List UInt8) (hd : d.length = 32) (A : Option Addr) (n c : Nat) (w : World) : Calls Tryd.prog 35 #[.agg (noteL N F P D I K S d A n c).toArray] w (NumPost w (numL N F P D I)) := by
  have hr := dg.range_new w (noteL N F P D I K S d A n c) 28
  have hb : Below w.heap.size w (w.alloc (.cells (noteL N F P D I K S d A n c).toArray 28)) := (Below.refl _ _).alloc (Nat.le_refl _) _
  have hlt : w.heap.size < (w.alloc (.cells (noteL N F P D I K S d A n c).toArray 28)).heap.size := by simp
  have c0 := hr 0 _ rfl
  have c1 := hr 1 _ rfl
  have c2 := hr 2 _ rfl
  have c3 := hr 3 _ rfl
  have c4 := hr 4 _ rfl
  simp only [Nat.zero_add] at c0 c1 c2 c3 c4
  obtain ⟨NA, hNA⟩ : ∃ z, (noteL N F P D I K S d A n c).toArray = z := ⟨_, rfl⟩
  rw [hNA] at hb hlt c0 c1 c2 c3 c4 ⊢
  obtain ⟨W, hW⟩ : ∃ z, w.alloc (.cells NA 28) = z := ⟨_, rfl⟩
  rw [hW] at hb hlt c0 c1 c2 c3 c4
  clear hr hNA
  obtain ⟨g, hg⟩ : ∃ z, w.heap.size = z := ⟨_, rfl⟩
  rw [hg] at hb hlt c0 c1 c2 c3 c4
  have HN := fun l t h fr => nums_new w W g hg hb hlt l t h fr
  by_cases k1 : N = 1
  · subst k1
    rw [show numL 1 F P D I = [F, P, D] from rfl]
    go_enter Tryd.func35, Tryd.ntmps35
    go_upto_region 1 with fail
    try rw [hW]
    try rw [hg]
    go_wp2_with fail
    go_ret
    exact HN [F, P, D] _ (by simp) _
  have b1 : (N == 1) = false := beq_eq_false_iff_ne.2 k1
  by_cases k2 : N = 2
  · subst k2
    rw [show numL 2 F P D I = [F, I] from rfl]
    go_enter Tryd.func35, Tryd.ntmps35
    go_upto_region 1 with fail
    try rw [hW]
    try rw [hg]
    go_wp2_with fail
    go_ret
    exact HN [F, I] _ (by simp) _
  have b2 : (N == 2) = false := beq_eq_false_iff_ne.2 k2
  by_cases k5 : N = 5
  · subst k5
    rw [show numL 5 F P D I = [F, I] from rfl]
    go_enter Tryd.func35, Tryd.ntmps35
    go_upto_region 1 with fail
    try rw [hW]
    try rw [hg]
    go_wp2_with fail
    go_ret
    exact HN [F, I] _ (by simp) _
  have b5 : (N == 5) = false := beq_eq_false_iff_ne.2 k5
  by_cases k6 : N = 6
  · subst k6
    rw [show numL 6 F P D I = [F, I] from rfl]
    go_enter Tryd.func35, Tryd.ntmps35
    go_upto_region 1 with fail
    try rw [hW]
    try rw [hg]
    go_wp2_with fail
    go_ret
    exact HN [F, I] _ (by simp) _
  have b6 : (N == 6) = false := beq_eq_false_iff_ne.2 k6
  by_cases k3 : N = 3
  · subst k3
    rw [show numL 3 F P D I = [F] from rfl]
    go_enter Tryd.func35, Tryd.ntmps35
    go_upto_region 1 with fail
    try rw [hW]
    try rw [hg]
    go_wp2_with fail
    go_ret
    exact HN [F] _ (by simp) _
  have b3 : (N == 3) = false := beq_eq_false_iff_ne.2 k3
  by_cases k4 : N = 4
  · subst k4
    rw [show numL 4 F P D I = [F] from rfl]
    go_enter Tryd.func35, Tryd.ntmps35
    go_upto_region 1 with fail
    try rw [hW]
    try rw [hg]
    go_wp2_with fail
    go_ret
    exact HN [F] _ (by simp) _
  have b4 : (N == 4) = false := beq_eq_false_iff_ne.2 k4
  rw [show numL N F P D I = [] by unfold numL; rw [if_neg k1, if_neg (by omega), if_neg (by omega)]]
  go_enter Tryd.func35, Tryd.ntmps35
  go_upto_region 1 with fail
  try rw [hW]
  try rw [hg]
  go_wp2_with fail
  go_ret
  exact ⟨none, rfl, fun _ => rfl, fun h => absurd rfl h, Rd.nil _ _ _, by rw [hg]; exact hb⟩
end Go.Proofs.YtbcgnacfhpahkaaDoor.rc
namespace Go.Proofs.YtbcgnacfhpahkaaDoor.rc
set_option maxRecDepth 20000
open Go.RowKit Mem OM LM DM
set_option linter.unusedVariables false
set_option linter.unusedSimpArgs false
attribute [local go_sem] Oper.semAt_some
theorem fitsV_1 (F P D I : Int) : fitsV 1 F P D I = decide ((1 ≤ F ∧ F ≤ 1073741824) ∧ (1 ≤ P ∧ P ≤ 65535) ∧ (1 ≤ D ∧ D ≤ 65535) ∧ I = 0) := by
  rw [Bool.eq_iff_iff, decide_eq_true_iff]
  unfold fitsV
  simp only [flds, if_true, goF, v0, List.length_cons, List.length_nil]
  by_cases h1 : F < 1 ∨ 1073741824 < F <;> by_cases h2 : P < 1 ∨ 65535 < P <;> by_cases h3 : D < 1 ∨ 65535 < D <;> simp [h1, h2, h3] <;> omega
theorem fitsV_2 (N F P D I : Int) (hN : N = 2 ∨ N = 5 ∨ N = 6) : fitsV N F P D I = decide ((1 ≤ F ∧ F ≤ 1073741824) ∧ (1 ≤ I ∧ I ≤ 1073741824) ∧ P = 0 ∧ D = 0) := by
  rw [Bool.eq_iff_iff, decide_eq_true_iff]
  unfold fitsV
  rw [show flds N = [(1, 1073741824), (4, 1073741824)] by unfold flds; rw [if_neg (by omega), if_pos hN]]
  simp only [goF, v0, List.length_cons, List.length_nil]
  by_cases h1 : F < 1 ∨ 1073741824 < F <;> by_cases h2 : I < 1 ∨ 1073741824 < I <;> simp [h1, h2] <;> omega
theorem fitsV_3 (N F P D I : Int) (hN : N = 3 ∨ N = 4) : fitsV N F P D I = decide ((1 ≤ F ∧ F ≤ 1073741824) ∧ P = 0 ∧ D = 0 ∧ I = 0) := by
  rw [Bool.eq_iff_iff, decide_eq_true_iff]
  unfold fitsV
  rw [show flds N = [(1, 1073741824)] by unfold flds; rw [if_neg (by omega), if_neg (by omega), if_pos hN]]
  simp only [goF, v0, List.length_cons, List.length_nil]
  by_cases h1 : F < 1 ∨ 1073741824 < F <;> simp [h1] <;> omega
theorem fitsV_0 (N F P D I : Int) (h1 : N ≠ 1) (h2 : N ≠ 2) (h3 : N ≠ 3) (h4 : N ≠ 4) (h5 : N ≠ 5) (h6 : N ≠ 6) : fitsV N F P D I = false := by
  unfold fitsV
  rw [show flds N = [] by unfold flds; rw [if_neg (by omega), if_neg (by omega), if_neg (by omega)]]
  rfl
theorem fitE_v (N F P D I K S : Int) (d : List UInt8) (n : Nat) (h : fitsV N F P D I = false) : fitE N F P D I K S d n = 100 := by unfold fitE; rw [h]; rfl
theorem fitE_n (N F P D I K S : Int) (d : List UInt8) (n : Nat) (h : fitsN N K S d n = false) : fitE N F P D I K S d n = 100 := by unfold fitE; rw [h]; simp
theorem fitE_vn (N F P D I K S : Int) (d : List UInt8) (n : Nat) (h : fitsV N F P D I = true) (h2 : fitsN N K S d n = true) : fitE N F P D I K S d n = 0 := by unfold fitE; rw [h, h2]; rfl
theorem fitsN_2 (K S : Int) (d : List UInt8) (n : Nat) : fitsN 2 K S d n = decide (chk K S n = 0) := by unfold fitsN; rw [if_pos rfl]
theorem fitsN_o (N K S : Int) (d : List UInt8) (n : Nat) (h : N ≠ 2) : fitsN N K S d n = decide (K = 0 ∧ S = 0 ∧ d = z32 ∧ n = 0) := by unfold fitsN; rw [if_neg h]
/-- a number that may not be -/
theorem fitE_bad (N F P D I K S : Int) (d : List UInt8) (n : Nat) (x : Int) (hx : x ∈ numL N F P D I) (hb : x < 1 ∨ 1073741824 < x) : fitE N F P D I K S d n = 100 := by
  refine fitE_v _ _ _ _ _ _ _ _ _ ?_
  by_cases k1 : N = 1
  · subst k1
    rw [show numL 1 F P D I = [F, P, D] from rfl] at hx
    rw [fitsV_1]
    refine decide_eq_false ?_
    simp at hx
    rcases hx with rfl | rfl | rfl <;> omega
  · by_cases k2 : N = 2 ∨ N = 5 ∨ N = 6
    · rw [show numL N F P D I = [F, I] by unfold numL; rw [if_neg k1, if_pos k2]] at hx
      rw [fitsV_2 N F P D I k2]
      refine decide_eq_false ?_
      simp at hx
      rcases hx with rfl | rfl <;> omega
    · by_cases k3 : N = 3 ∨ N = 4
      · rw [show numL N F P D I = [F] by unfold numL; rw [if_neg k1, if_neg k2, if_pos k3]] at hx
        rw [fitsV_3 N F P D I k3]
        refine decide_eq_false ?_
        simp at hx
        subst hx
        omega
      · rw [show numL N F P D I = [] by unfold numL; rw [if_neg k1, if_neg k2, if_neg k3]] at hx
        simp at hx
end Go.Proofs.YtbcgnacfhpahkaaDoor.rc
