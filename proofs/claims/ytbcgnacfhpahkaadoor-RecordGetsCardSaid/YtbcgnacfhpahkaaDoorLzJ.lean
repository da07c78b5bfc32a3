/- lz: a new window; Shorten. -/
import Derived.Test.YtbcgnacfhpahkaaDoorLzI
import Derived.Test.YtbcgnacfhpahkaaDoorLzMath2
import Derived.Test.YtbcgnacfhpahkaaDoorLoB
namespace Go.Proofs.YtbcgnacfhpahkaaDoor.lz
set_option maxRecDepth 20000
open Go.RowKit Go.Shelf Mem OM LM oct
set_option linter.unusedVariables false
attribute [local go_sem] Oper.semAt_some
theorem wp_build {P : Program} {ops : Array Oper} {rest : List Oper} {o : Oper} {a : Act} {w : World} {Q : Exit → Act → World → Prop} (hgd : o.guard = none) (t : TypeId) (parts : Array (Nat × Operand)) (ho : o.op = .build t parts) (v : Value)
    (hrun : (Instr.build t (parts.map fun (i, x) => (i, a.eval x))).run P w = .ok v w) (h : wpList P ops Q rest (a.put o.dst v) w) : wpList P ops Q (o :: rest) a w := by
  refine wpList_plain hgd fun K hK => ?_
  unfold Oper.wp execOp
  simp only [ho, Sem.run_bind, Result.andThen_ok, hrun]
  exact hK _ _ h
theorem World.frozen?_new' {w : World} {cs : Array Value} {t : TypeId} {b o : Nat} (h : w.heap[b]? = some (.cells cs t)) : w.frozen? ⟨b, o, none⟩ = false := by
  unfold World.frozen?
  rw [h]
  simp
/-- a new window's cells -/
def wcells (A : Option Addr) (n c mb : Nat) : List Value := .slice A n c :: .int .i64 0 :: .map (some mb) :: List.replicate 512 (.int .i64 0)
theorem wcells_at (A : Option Addr) (n c mb i : Nat) (hi : i < 512) : (wcells A n c mb)[3 + i]? = some (.int .i64 0) := by
  unfold wcells
  rw [show 3 + i = i + 1 + 1 + 1 by omega, List.getElem?_cons_succ, List.getElem?_cons_succ, List.getElem?_cons_succ, List.getElem?_replicate, if_pos hi]
theorem win_new (A0 : Option Addr) (n c0 C : Nat) (B : List UInt8) (w : World) (hb : Rd w C A0 n (bv B)) (hC : C ≤ w.heap.size) (hnc : n ≤ c0) (hn : n ≤ 1048576) (t : TypeId) :
    Win ((w.alloc (.map #[] 0)).alloc (.cells (wcells A0 n c0 w.heap.size).toArray t)) (w.heap.size + 1) w.heap.size n c0 A0 B 0 0 (fun _ => none) ∧ ((w.alloc (.map #[] 0)).alloc (.cells (wcells A0 n c0 w.heap.size).toArray t)).cell? ⟨w.heap.size + 1, 1, none⟩ = some (.int .i64 ((0 : Nat) : Int)) := by
  have hh : ((w.alloc (.map #[] 0)).alloc (.cells (wcells A0 n c0 w.heap.size).toArray t)).heap[w.heap.size + 1]? = some (.cells (wcells A0 n c0 w.heap.size).toArray t (0, 0)) := by
    have := heap_alloc_new (w.alloc (.map #[] 0)) (.cells (wcells A0 n c0 w.heap.size).toArray t)
    rwa [World.size_alloc] at this
  have hm : ((w.alloc (.map #[] 0)).alloc (.cells (wcells A0 n c0 w.heap.size).toArray t)).heap[w.heap.size]? = some (.map #[] 0) := by
    rw [Below.heap_alloc _ _ _ (by simp)]
    exact heap_alloc_new w _
  have hbb : Below w.heap.size w ((w.alloc (.map #[] 0)).alloc (.cells (wcells A0 n c0 w.heap.size).toArray t)) := ((Below.refl _ w).alloc (Nat.le_refl _) _).alloc (by simp) _
  have hc : ∀ i v, (wcells A0 n c0 w.heap.size)[i]? = some v → ((w.alloc (.map #[] 0)).alloc (.cells (wcells A0 n c0 w.heap.size).toArray t)).cell? ⟨w.heap.size + 1, i, none⟩ = some v := fun i v hv => by
    rw [cell_of_row _ _ i _ t (0, 0) hh]
    simpa using hv
  refine ⟨⟨hc 0 _ rfl, hc 2 _ rfl, (hb.below hbb hC).more hC, ⟨hnc, hn⟩, map_new _ _ hm, fun i hi => ⟨0, hc (3 + i) _ (wcells_at _ _ _ _ i hi)⟩, fun p h => by omega, fun s _ r h1 h2 => by omega, fun o => ?_, ⟨by omega, by simp⟩⟩, hc 1 _ rfl⟩
  exact World.frozen?_new' hh
theorem newWindow_any (A0 : Option Addr) (n c0 C : Nat) (B : List UInt8) (w : World) (hb : Rd w C A0 n (bv B)) (hC : C ≤ w.heap.size) (hnc : n ≤ c0) (hn : n ≤ 1048576) :
    Calls Tryd.prog 56 #[.slice A0 n c0] w fun e w' => e = .returned (.pointer (some ⟨w.heap.size + 1, 0, none⟩)) ∧ Win w' (w.heap.size + 1) w.heap.size n c0 A0 B 0 0 (fun _ => none) ∧ w'.cell? ⟨w.heap.size + 1, 1, none⟩ = some (.int .i64 ((0 : Nat) : Int)) ∧ Below w.heap.size w w' ∧ w'.heap.size = w.heap.size + 2 := by
  have HW := Lib.hid (win_new A0 n c0 C B w hb hC hnc hn 92)
  clear hb
  have hmm := @run_makeMap Tryd.prog
  go_enter Tryd.func56, Tryd.ntmps56
  go_wp2_with (refine wp_build rfl _ _ rfl (.agg (wcells A0 n c0 w.heap.size).toArray) (by kernel_rfl) ?_)
  go_ret
  exact ⟨rfl, HW.out.1, HW.out.2, ((Below.refl _ w).alloc (Nat.le_refl _) _).alloc (by simp) _, by simp⟩
theorem lits_le : ∀ (f : Nat) (b : List UInt8), b.length ≤ f → (lits b).length ≤ 2 * b.length
  | 0, b, h => by
    have : b = [] := List.length_eq_zero_iff.1 (by omega)
    subst this
    simp [lits_nil]
  | f + 1, b, h => by
    by_cases hb : b = []
    · subst hb; simp [lits_nil]
    · have hp : 0 < b.length := List.length_pos_iff.2 hb
      have ih := lits_le f (b.drop 128) (by rw [List.length_drop]; omega)
      rw [lits_cons b hb, List.length_cons, List.length_append, List.length_take]
      rw [List.length_drop] at ih
      omega
theorem cut_take {α : Type} (B : List α) (t a : Nat) : (B.drop t).take (a - t) = (B.take a).drop t := by
  rw [List.take_drop]
  rcases Nat.le_total t a with h | h
  · rw [show t + (a - t) = a by omega]
  · rw [show t + (a - t) = t by omega, List.drop_eq_nil_of_le (by rw [List.length_take]; omega), List.drop_eq_nil_of_le (by rw [List.length_take]; omega)]
structure ShSt (w wr : World) (x mb n c0 B1 : Nat) (A0 : Option Addr) (B : List UInt8) (A : Option Addr) (N c told at_ fuel : Nat) (out : List UInt8) (f : List UInt8 → Option Nat) : Prop where
  win : Win wr x mb n c0 A0 B (at_ - 512) at_ f
  c1 : wr.cell? ⟨x, 1, none⟩ = some (.int .i64 (at_ : Nat))
  own : Ow wr B1 5 A N c (bv out)
  below : Below w.heap.size w wr
  size : B1 ≤ wr.heap.size
  le : told ≤ at_ ∧ at_ ≤ n
  fu : n + 1 ≤ fuel + at_
  eq : shA B fuel at_ told out = shB B
  few : out.length ≤ 16 * told
theorem ShSt.len {w wr : World} {x mb n c0 B1 : Nat} {A0 : Option Addr} {B : List UInt8} {A : Option Addr} {N c told at_ fuel : Nat} {out : List UInt8} {f : List UInt8 → Option Nat} (h : ShSt w wr x mb n c0 B1 A0 B A N c told at_ fuel out f) : out.length = N := by
  have := h.own.len
  rwa [bv_len] at this
theorem own_keep {wz w9 : World} {mb x N c : Nat} {A : Option Addr} {xs : List Value} (ho : Ow wz (mb + 2) 5 A N c xs) (k : Kept wz w9 (fun i => i = mb ∨ i = x)) (hx : mb + 1 = x) : Ow w9 (mb + 2) 5 A N c xs :=
  k.ow ho (fun i e hc => by have := (ho.blk_lt i e).1; omega)
theorem below_keep {w wz w9 : World} {mb x : Nat} (hb : Below w.heap.size w wz) (k : Kept wz w9 (fun i => i = mb ∨ i = x)) (hmb : w.heap.size = mb) (hx : mb + 1 = x) : Below w.heap.size w w9 :=
  Kept.below hb k hb.size (fun i hi hc => by omega)
def ShPost (B : List UInt8) (w : World) (e : Ending) (w' : World) : Prop := ∃ A N c, e = .returned (.slice A N c) ∧ Ow w' w.heap.size 5 A N c (bv (shB B)) ∧ Below w.heap.size w w'
set_option maxRecDepth 100000 in
set_option maxHeartbeats 4000000 in
theorem shorten_any (A0 : Option Addr) (n c0 C : Nat) (B : List UInt8) (w : World) (hb : Rd w C A0 n (bv B)) (hC : C ≤ w.heap.size) (hnc : n ≤ c0) (hn : n ≤ 1048576) :
    Calls Tryd.prog 30 #[.slice A0 n c0] w (ShPost B w) := by
  have hBl : B.length = n := by rw [← hb.len, bv_len]
  have hnw := newWindow_any A0 n c0 C B w hb hC hnc hn
  have HNW := Lib.hid hnw
  clear hnw hb
  go_enter Tryd.func30, Tryd.ntmps30
  go_wp2_with (go_at_call 56; refine (HNW.out).mono ?_; rintro en w1 ⟨rfl, hw1, hc1, hb1, hsz1⟩)
  obtain ⟨mb, hmb⟩ : ∃ mb, w.heap.size = mb := ⟨_, rfl⟩
  obtain ⟨x, hx⟩ : ∃ x, mb + 1 = x := ⟨_, rfl⟩
  have H0 : Hid (ShSt w w1 x mb n c0 (mb + 2) A0 B none 0 0 0 0 (n + 1) [] (fun _ => none)) := Lib.hid ⟨by rw [← hx, ← hmb]; exact hw1, by rw [← hx, ← hmb]; exact hc1, Ow.nil _ _ _, hb1, by rw [hsz1, hmb]; exact Nat.le_refl _, ⟨Nat.le_refl _, Nat.zero_le _⟩, by omega, by unfold shB; rw [hBl], Nat.zero_le _⟩
  have HMB := Lib.hid hmb
  have HX := Lib.hid hx
  have HBL := Lib.hid hBl
  rw [hmb, hx]
  clear hw1 hc1 hb1 hsz1 HNW hmb hx hBl
  go_loopw [3, 5, 6] (fun s t5 a6 wr => ∃ (A : Option Addr) (N c told at_ fuel : Nat) (out : List UInt8) (f : List UInt8 → Option Nat), s = .slice A N c ∧ t5 = .int .i64 (told : Nat) ∧ a6 = .int .i64 (at_ : Nat) ∧ Hid (ShSt w wr x mb n c0 (mb + 2) A0 B A N c told at_ fuel out f)) (fun _ _ a6 _ => n - (intOf a6).toNat)
  case atStart => exact ⟨none, 0, 0, 0, 0, n + 1, [], _, rfl, rfl, rfl, H0⟩
  case round =>
    clear H0
    obtain ⟨A, N, c, told, at_, fuel, out, f, rfl, rfl, rfl, HS⟩ := hrel
    have hle := HS.out.le
    have hNl := HS.out.len
    have hfew := HS.out.few
    have hwl := HS.out.win.lt
    have hN : N ≤ 16777216 := by omega
    by_cases hlt : at_ < n
    · have hai : (at_ : Int) < (n : Int) := by omega
      have hlg := longest_any _ HS.out.win HS.out.c1 hlt
      have hok := longest_ok B at_
      have heq := HS.out.eq
      obtain ⟨fu, rfl⟩ : ∃ fu, fuel = fu + 1 := ⟨fuel - 1, by have := HS.out.fu; omega⟩
      have heq2 : shA B (fu + 1) at_ told out = if B.length ≤ at_ then out ++ lits (B.drop told) else if (longest B at_).1 = 0 then shA B fu (at_ + 1) told out
        else shA B fu (at_ + (longest B at_).1) (at_ + (longest B at_).1) (out ++ lits ((B.drop told).take (at_ - told)) ++ [UInt8.ofNat ((longest B at_).1 + 125)] ++ numB (longest B at_).2) := rfl
      rw [heq, if_neg (by have := HBL.out; omega)] at heq2
      obtain ⟨L1, hL1⟩ : ∃ L1, (longest B at_).1 = L1 := ⟨_, rfl⟩
      obtain ⟨L2, hL2⟩ : ∃ L2, (longest B at_).2 = L2 := ⟨_, rfl⟩
      rw [hL1, hL2] at hlg heq2
      have HLG := Lib.hid hlg
      have hok2 : L1 = 0 ∨ (3 ≤ L1 ∧ L1 ≤ 66 ∧ at_ + L1 ≤ n ∧ 1 ≤ L2 ∧ L2 ≤ 512) := by
        have := HBL.out
        rcases hok with h | h
        · left; rw [← hL1, h]
        · right; omega
      clear hlg heq hok hL1 hL2
      rcases hok2 with rfl | ⟨o1, o2, o3, o4, o5⟩
      · rw [if_pos rfl] at heq2
        have HE := Lib.hid heq2
        clear heq2
        go_wp2_with (first
          | (go_at_call 57; refine (HLG.out).mono ?_; rintro en w2 ⟨rfl, hb2⟩; have HB2 := Lib.hid hb2; clear hb2)
          | (go_at_call 58; refine (move_any 1 _ (HS.out.win.below HB2.out) ((HB2.out.cell (p := ⟨x, 1, none⟩) HS.out.win.lt.2).trans HS.out.c1) (by omega)).mono ?_; rintro en w3 ⟨rfl, f3, hw3, hc3, hk3⟩; have HW3 := Lib.hid (And.intro hw3 (And.intro hc3 hk3)); clear hw3 hk3)
          | fail)
        go_roundw
        case rel =>
          have hkk : Kept wr w3 (fun i => i = mb ∨ i = x) := ((Kept.ofBelow HB2.out).more (bad' := fun i => i = mb ∨ i = x) (fun i hi hc => by omega)).trans HW3.out.2.2 (fun _ _ e => e)
          exact ⟨A, N, c, told, at_ + 1, fu, out, f3, rfl, rfl, by go_num, Lib.hid ⟨HW3.out.1, HW3.out.2.1, own_keep HS.out.own hkk HX.out, below_keep HS.out.below hkk HMB.out HX.out, Nat.le_trans HS.out.size hkk.size, ⟨by omega, by omega⟩, by have := HS.out.fu; omega, HE.out.symm, hfew⟩⟩
        case measure => simp only [intOf]; omega
      · rw [if_neg (by omega)] at heq2
        have HE := Lib.hid heq2
        have hti : (told : Int) ≤ (at_ : Int) := by omega
        have hmx : mb + 2 ≤ wr.heap.size := HS.out.size
        have hx2 := HX.out
        clear heq2
        go_wp2_with (first
          | (go_at_call 57; refine (HLG.out).mono ?_; rintro en w2 ⟨rfl, hb2⟩; have HB2 := Lib.hid (And.intro (hb2.mono hmx) (And.intro (HS.out.own.below hb2 (Nat.le_refl _)) (HS.out.win.below hb2))); have hz2 := hb2.size; clear hb2)
          | (refine wp_cut_lh u8ty rfl (.tmp 29) (.tmp 30) (.tmp 31) rfl rfl rfl rfl HB2.out.2.2.rd (by omega) (by omega) (by omega) hnc ?_; intro A' n' c' hn' hc' h2'; have hn2 : n' = at_ - told := (by omega); have hnc' : n' ≤ c' := (by omega); clear hn'; subst hn2; rw [Int.toNat_natCast, ← bv_drop, ← bv_take] at h2'; have HCUT := Lib.hid h2'; clear h2' hc')
          | (go_at_call 59; refine (literals_any A A' N c (at_ - told) c' (mb + 2) mb out _ _ HB2.out.2.1 HCUT.out (by omega) (by omega) hnc' (by omega) (by omega)).mono ?_; rintro en w3 ⟨A3, N3, c3, rfl, ho3, hb3⟩; have HB3 := Lib.hid (And.intro (HB2.out.1.trans hb3) ho3); have hz3 := hb3.size; have hN3 : N3 ≤ 20000000 := (by have h9 := ho3.len; rw [bv_len, List.length_append] at h9; have h8 := lits_le _ ((B.drop told).take (at_ - told)) (Nat.le_refl _); rw [List.length_take] at h8; omega); clear ho3 hb3)
          | (at_builtin; refine wp_app u8ty rfl (.tmp 34) (.tmp 38) rfl rfl rfl (HB3.out.2.alloc _) (Rd.one _ _ _) (one1 rfl) (by omega) (by omega) (by simp; omega) ?_; intro A4 N4 c4 w4 ho4 hN4 hb4 hg4; have HB4 := Lib.hid (And.intro (HB3.out.1.trans (((Below.refl (mb + 2) w3).alloc (by omega) _).trans hb4)) ho4); have hz4 : w3.heap.size ≤ w4.heap.size := (Nat.le_trans (by simp) hb4.size); clear ho4 hb4 hg4)
          | (go_at_call 41; refine (number_any none 0 0 w4.heap.size (L2 : Nat) [] w4 (Rd.nil _ _ _) (Nat.le_refl _) (by omega) (by omega) (by omega)).mono ?_; rintro en w5 ⟨A5, N5, c5, rfl, ho5, hb5⟩; have HB5 := Lib.hid (And.intro (HB4.out.1.trans (hb5.mono (by omega))) (And.intro (HB4.out.2.below hb5 (Nat.le_refl _)) ho5)); have hz5 := hb5.size; have hN5 : N5 ≤ 9 := (by have h9 := ho5.len; rw [bv_len, List.nil_append] at h9; have := numB_le ((L2 : Nat) : Int).toNat; omega); clear ho5 hb5)
          | (at_builtin; refine wp_app u8ty rfl (.tmp 40) (.tmp 42) rfl rfl rfl HB5.out.2.1 HB5.out.2.2.rd (bv_one _) (by omega) (by omega) (by omega) ?_; intro A6 N6 c6 w6 ho6 hN6 hb6 hg6; have HB6 := Lib.hid (And.intro (HB5.out.1.trans hb6) ho6); have hz6 := hb6.size; clear ho6 hb6 hg6)
          | (go_at_call 58; refine (move_any L1 _ (HS.out.win.kept (Kept.ofBelow HB6.out.1) (fun i hi hc => by omega)) ((HB6.out.1.cell (p := ⟨x, 1, none⟩) (by show x < mb + 2; omega)).trans HS.out.c1) o3).mono ?_; rintro en w7 ⟨rfl, f7, hw7, hc7, hk7⟩; have HW7 := Lib.hid (And.intro hw7 (And.intro hc7 hk7)); clear hw7 hk7)
          | fail)
        go_roundw
        case rel =>
          have hu8 : (L1 : Int) + 125 = ((UInt8.ofNat (L1 + 125)).toNat : Int) := by
            have : (UInt8.ofNat (L1 + 125)).toNat = (L1 + 125) % 256 := by simp
            omega
          have e1 : bv (out ++ lits ((B.drop told).take (at_ - told))) ++ [Value.int .u8 ((L1 : Int) + 125)] ++ bv ([] ++ numB ((L2 : Nat) : Int).toNat) = bv (out ++ lits ((B.drop told).take (at_ - told)) ++ [UInt8.ofNat (L1 + 125)] ++ numB L2) := by
            rw [bv_app (out ++ lits ((B.drop told).take (at_ - told)) ++ [UInt8.ofNat (L1 + 125)]), bv_app (out ++ lits ((B.drop told).take (at_ - told))), hu8, List.nil_append, Int.toNat_natCast]
            rfl
          have ho6 := HB6.out.2
          rw [e1] at ho6
          have hfw : (out ++ lits ((B.drop told).take (at_ - told)) ++ [UInt8.ofNat (L1 + 125)] ++ numB L2).length ≤ 16 * (at_ + L1) := by
            have h8 := lits_le _ ((B.drop told).take (at_ - told)) (Nat.le_refl _)
            have h9 := numB_le L2
            rw [List.length_take] at h8
            simp only [List.length_append, List.length_singleton]
            omega
          exact ⟨A6, N6, c6, at_ + L1, at_ + L1, fu, _, f7, rfl, by go_num, by go_num, Lib.hid ⟨HW7.out.1, HW7.out.2.1, own_keep ho6 HW7.out.2.2 HX.out, below_keep (HS.out.below.trans (HB6.out.1.mono (by have := HMB.out; omega))) HW7.out.2.2 HMB.out HX.out, Nat.le_trans (by omega) HW7.out.2.2.size, ⟨Nat.le_refl _, o3⟩, by have := HS.out.fu; omega, HE.out.symm, hfw⟩⟩
        case measure => simp only [intOf]; omega
    · have hai : ¬ (at_ : Int) < (n : Int) := by omega
      obtain rfl : at_ = n := by omega
      have hti : (told : Int) ≤ (at_ : Int) := by omega
      have heq := HS.out.eq
      rw [shA_end B fuel at_ told out (by have := HBL.out; omega)] at heq
      have HE := Lib.hid heq
      clear heq
      have hmx : mb + 2 ≤ wr.heap.size := HS.out.size
      go_wp2_with (first
        | (refine wp_cut_l u8ty rfl (.tmp 51) (.tmp 52) rfl rfl rfl HS.out.win.rd (by omega) (by omega) hnc ?_; intro A' n' c' hn' hc' h2' _; have hnc' : n' ≤ c' := (by omega); have hn2 : n' ≤ 1048576 := (by omega); rw [Int.toNat_natCast, ← bv_drop] at h2'; have HCUT := Lib.hid h2'; clear h2' hc' hn')
        | (go_at_call 59; refine (literals_any A A' N c n' c' (mb + 2) mb out _ _ HS.out.own HCUT.out (by omega) hmx hnc' hn2 (by omega)).mono ?_; rintro en w3 ⟨A3, N3, c3, rfl, ho3, hb3⟩)
        | fail)
      go_ret
      rw [HE.out] at ho3
      exact ⟨A3, N3, c3, rfl, ho3.base (by have := HMB.out; omega), HS.out.below.trans (hb3.mono (by have := HMB.out; omega))⟩
end Go.Proofs.YtbcgnacfhpahkaaDoor.lz
