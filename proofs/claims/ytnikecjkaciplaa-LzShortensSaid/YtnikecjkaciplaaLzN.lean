/- The document's tokens of bytes as they are, and its shortening. -/
import Derived.Test.YtnikecjkaciplaaLzM
namespace Go.Proofs.Ytnikecjkaciplaa.lz
open Go.RowKit Mem OM LM oct
set_option linter.unusedVariables false
attribute [local go_sem] Oper.semAt_some
structure PlSt (w wr : World) (C n : Nat) (b : List UInt8) (Ab : Option Addr) (nb cb : Nat) (A : Option Addr) (N c : Nat) (rest out : List UInt8) : Prop where
  rd : Rd wr C Ab nb (bv rest)
  nc : nb ≤ cb
  own : Ow wr w.heap.size 5 A N c (bv out)
  below : Below w.heap.size w wr
  eq : out ++ lits rest = lits b
  few : out.length + 2 * rest.length ≤ 2 * n
set_option maxRecDepth 50000 in
set_option maxHeartbeats 4000000 in
theorem plain_any (Ab : Option Addr) (n c C : Nat) (b : List UInt8) (w : World) (hr : Rd w C Ab n (bv b)) (hC : C ≤ w.heap.size) (hc : n ≤ c) (hn : n ≤ 1048576) :
    Calls Try.prog 27 #[.slice Ab n c] w (Made w (lits b)) := by
  have hl : b.length = n := by rw [← hr.len, bv_len]
  have H0 : Hid (PlSt w w C n b Ab n c none 0 0 b []) := Lib.hid ⟨hr, hc, Ow.nil _ _ _, Below.refl _ _, rfl, by simp; omega⟩
  clear hr hl
  go_enter Try.func27, Try.ntmps27
  go_wp2_with fail
  go_loopw [0, 3] (fun s0 s3 wr => ∃ (Ab : Option Addr) (nb cb : Nat) (A : Option Addr) (N c : Nat) (rest out : List UInt8), s0 = .slice Ab nb cb ∧ s3 = .slice A N c ∧ Hid (PlSt w wr C n b Ab nb cb A N c rest out)) (fun s0 _ _ => match s0 with
    | .slice _ k _ => k
    | _ => 0)
  case atStart => exact ⟨Ab, n, c, none, 0, 0, b, [], rfl, rfl, H0⟩
  case round =>
    clear H0
    obtain ⟨Ab, nb, cb, A, N, c, rest, out, rfl, rfl, HP⟩ := hrel
    have hrl : rest.length = nb := by rw [← HP.out.rd.len, bv_len]
    have hol : out.length = N := by have := HP.out.own.len; rwa [bv_len] at this
    have hfew := HP.out.few
    have hws := HP.out.below.size
    by_cases hnb : 0 < nb
    · have hni : (0 : Int) < (nb : Int) := by omega
      obtain ⟨q, hq⟩ : ∃ q, min 128 nb = q := ⟨_, rfl⟩
      have hqi : min (128 : Int) (nb : Int) = (q : Int) := by omega
      have hq2 : 1 ≤ q ∧ q ≤ 128 ∧ q ≤ nb := by omega
      have hqn : (q : Int) ≤ (nb : Int) := by omega
      have hqc : q ≤ cb := by have := HP.out.nc; omega
      have hw1 : IntKind.i64.wrap ((q : Int) - 1) = ((q - 1 : Nat) : Int) := by rw [IntKind.wrap_i64]; omega
      have hw2 : IntKind.u8.wrap ((q - 1 : Nat) : Int) = ((UInt8.ofNat (q - 1)).toNat : Int) := by
        have : (UInt8.ofNat (q - 1)).toNat = (q - 1) % 256 := by simp
        rw [IntKind.wrap_u8]
        omega
      have HW2 := Lib.hid hw2
      clear hw2
      have hcq : Rd wr C Ab q (bv (rest.take q)) := by
        have := HP.out.rd.cut (l := 0) (m := q) (by omega) (A' := Ab) (fun _ => by cases Ab <;> simp [Addr.add])
        rwa [List.drop_zero, ← bv_take] at this
      have hne : rest ≠ [] := fun e => by rw [e] at hrl; simp at hrl; omega
      have htk : rest.take 128 = rest.take q ∧ rest.drop 128 = rest.drop q := by
        rcases Nat.lt_or_ge nb 128 with h | h
        · have : q = nb := by omega
          subst this
          rw [List.take_of_length_le (by omega), List.take_of_length_le (by omega), List.drop_eq_nil_of_le (by omega), List.drop_eq_nil_of_le (by omega)]
          exact ⟨rfl, rfl⟩
        · rw [show q = 128 by omega]; exact ⟨rfl, rfl⟩
      have hlc := lits_cons rest hne
      rw [htk.1, htk.2, List.length_take, show min q rest.length = q by omega] at hlc
      have HQ := Lib.hid (And.intro hcq (And.intro hlc hrl))
      clear hcq hlc htk hq hne
      go_wp2_with fail
      go_region_law (first
        | (refine step_app u8ty rfl (.tmp 11) (.tmp 15) rfl rfl rfl (HP.out.own.alloc _).drew (Rd.one _ _ _).drew (one1 rfl) (by omega) (by omega) (by simp; omega) ?_; intro A1 N1 c1 w1 ho1 hN1 hb1 _; have hbw1 : Below w.heap.size wr w1 := ((((Below.refl w.heap.size wr).alloc hws _).drew).trans hb1); have hz1 := hbw1.size)
        | (refine step_app u8ty rfl (.tmp 16) (.tmp 19) rfl rfl rfl ho1 (HQ.out.1.below hbw1 hC) (bv_one _) (by omega) (by omega) (Nat.le_trans hws hz1) ?_; intro A2 N2 c2 w2 ho2 hN2 hb2 _)
        | fail)
      all_goals
        have hbw2 := hbw1.trans hb2
        have hrr := HP.out.rd.below hbw2 hC
        go_wp2_with (first
          | (refine wp_cut_l u8ty rfl (.tmp 21) (.tmp 22) rfl rfl rfl hrr (by omega) (by omega) HP.out.nc ?_; intro A3 n3 c3 hn3 hc3 h3 _; have hn3' : n3 = nb - q := (by omega); have hc3' : n3 ≤ c3 := (by have := HP.out.nc; omega); rw [Int.toNat_natCast, ← bv_drop] at h3; subst hn3'; have HR3 := Lib.hid (And.intro h3 hc3'); clear h3 hn3 hc3 hc3')
          | fail)
        go_roundw
        case rel =>
          have e2 : bv out ++ [Value.int .u8 (IntKind.u8.wrap ((q - 1 : Nat) : Int))] ++ bv (rest.take q) = bv (out ++ UInt8.ofNat (q - 1) :: rest.take q) := by
            rw [HW2.out, bv_app, List.append_assoc]
            rfl
          rw [e2] at ho2
          refine ⟨A3, nb - q, c3, A2, N2, c2, rest.drop q, _, rfl, rfl, Lib.hid ⟨HR3.out.1, HR3.out.2, ho2, HP.out.below.trans hbw2, ?_, ?_⟩⟩
          · rw [← HP.out.eq, HQ.out.2.1, List.append_assoc, List.cons_append]
          · rw [List.length_append, List.length_cons, List.length_take, List.length_drop]
            omega
        case measure =>
          show nb - q < nb
          omega
    · have hni : ¬ (0 : Int) < (nb : Int) := by omega
      have hre : rest = [] := List.length_eq_zero_iff.1 (by omega)
      have he := HP.out.eq
      rw [hre, lits_nil, List.append_nil] at he
      have HE := Lib.hid he
      clear he
      go_wp2_with fail
      go_ret
      have := HP.out.own
      rw [HE.out] at this
      exact ⟨A, N, c, rfl, this, HP.out.below⟩
structure RfSt (w wr : World) (n : Nat) (B : List UInt8) (A : Option Addr) (N c : Nat) (S : Option Addr) (M d : Nat) (told at_ fuel : Nat) (out : List UInt8) : Prop where
  own : Ow wr w.heap.size 5 A N c (bv out)
  own2 : Ow wr w.heap.size 5 S M d (bv ((B.drop told).take (at_ - told)))
  dis : ∀ k, blk A = some k → blk S ≠ some k
  below : Below w.heap.size w wr
  le : told ≤ at_ ∧ at_ ≤ n
  fu : n + 1 ≤ fuel + at_
  eq : shA B fuel at_ told out = shB B
  few : out.length ≤ 16 * told
theorem u8_app (l : List UInt8) (L1 : Nat) (h : L1 ≤ 66) : bv l ++ [Value.int .u8 ((L1 : Int) + 125)] = bv l ++ bv [UInt8.ofNat (L1 + 125)] := by
  have hu8 : (L1 : Int) + 125 = ((UInt8.ofNat (L1 + 125)).toNat : Int) := by
    have : (UInt8.ofNat (L1 + 125)).toNat = (L1 + 125) % 256 := by simp
    omega
  rw [hu8]
  rfl
theorem best_longest (B : List UInt8) (e : Nat) : ((best B e (min 512 e)).1 < 3 ∧ longest B e = (0, 0)) ∨ (3 ≤ (best B e (min 512 e)).1 ∧ longest B e = best B e (min 512 e)) := by
  unfold longest worth
  split
  · rename_i h; exact Or.inl ⟨h, rfl⟩
  · rename_i h; exact Or.inr ⟨by omega, rfl⟩
set_option maxRecDepth 100000 in
set_option maxHeartbeats 8000000 in
theorem refShorten_any (A0 : Option Addr) (n c0 C : Nat) (B : List UInt8) (w : World) (hb : Rd w C A0 n (bv B)) (hC : C ≤ w.heap.size) (hnc : n ≤ c0) (hn : n ≤ 1048576) :
    Calls Try.prog 15 #[.slice A0 n c0] w (Made w (shB B)) := by
  have hBl : B.length = n := by rw [← hb.len, bv_len]
  have H0 : Hid (RfSt w w n B none 0 0 none 0 0 0 0 (n + 1) []) := Lib.hid ⟨Ow.nil _ _ _, (by simp [bv]; exact Ow.nil _ _ _), (fun k h => by cases h), Below.refl _ _, ⟨Nat.le_refl _, Nat.zero_le _⟩, by omega, (by unfold shB; rw [hBl]), Nat.zero_le _⟩
  have HB := Lib.hid (And.intro hb hBl)
  clear hb hBl
  go_enter Try.func15, Try.ntmps15
  go_wp2_with fail
  go_loopw [3, 4, 5] (fun s3 s4 a5 wr => ∃ (A : Option Addr) (N c : Nat) (S : Option Addr) (M d told at_ fuel : Nat) (out : List UInt8), s3 = .slice A N c ∧ s4 = .slice S M d ∧ a5 = .int .i64 (at_ : Nat) ∧ Hid (RfSt w wr n B A N c S M d told at_ fuel out)) (fun _ _ a5 _ => n - (intOf a5).toNat)
  case atStart => exact ⟨none, 0, 0, none, 0, 0, 0, 0, n + 1, [], rfl, rfl, rfl, H0⟩
  case round =>
    clear H0
    obtain ⟨A, N, c, S, M, d, told, at_, fuel, out, rfl, rfl, rfl, HS⟩ := hrel
    have hle := HS.out.le
    have hfew := HS.out.few
    have hol : out.length = N := by have := HS.out.own.len; rwa [bv_len] at this
    have hsl : at_ - told = M := by have := HS.out.own2.len; rw [bv_len, List.length_take, List.length_drop] at this; have := HB.out.2; omega
    have hws := HS.out.below.size
    have hN : N ≤ 16777216 := by omega
    have hM : M ≤ 1048576 := by omega
    by_cases hlt : at_ < n
    · have hai : (at_ : Int) < (n : Int) := by omega
      have hrd := HB.out.1.below HS.out.below hC
      have hlg := refLongest_any A0 n c0 C at_ B _ hrd hlt hn
      obtain ⟨fu, rfl⟩ : ∃ fu, fuel = fu + 1 := ⟨fuel - 1, by have := HS.out.fu; omega⟩
      have heq2 : shA B (fu + 1) at_ told out = if B.length ≤ at_ then out ++ lits (B.drop told) else if (longest B at_).1 = 0 then shA B fu (at_ + 1) told out
        else shA B fu (at_ + (longest B at_).1) (at_ + (longest B at_).1) (out ++ lits ((B.drop told).take (at_ - told)) ++ [UInt8.ofNat ((longest B at_).1 + 125)] ++ numB (longest B at_).2) := rfl
      rw [HS.out.eq, if_neg (by have := HB.out.2; omega)] at heq2
      have hok := longest_ok B at_
      have hbl := best_longest B at_
      obtain ⟨L1, hL1⟩ : ∃ L1, (best B at_ (min 512 at_)).1 = L1 := ⟨_, rfl⟩
      obtain ⟨L2, hL2⟩ : ∃ L2, (best B at_ (min 512 at_)).2 = L2 := ⟨_, rfl⟩
      rw [hL1, hL2] at hlg
      have HLG := Lib.hid hlg
      rcases hbl with ⟨b1, b2⟩ | ⟨b1, b2⟩
      · rw [b2, if_pos rfl] at heq2
        have hL3 : (L1 : Int) < 3 := by omega
        have HE := Lib.hid heq2
        obtain ⟨g, off, hA0, hg, hcell⟩ := hrd.addr (by omega)
        subst hA0
        have hcl := hcell at_ hlt
        rw [bv_at B at_ (by have := HB.out.2; omega)] at hcl
        have hgl := cell_lt hcl
        have htk : (B.drop told).take (at_ + 1 - told) = (B.drop told).take (at_ - told) ++ [B[at_]'(by have := HB.out.2; omega)] := by
          rw [show at_ + 1 - told = (at_ - told) + 1 by omega, List.take_succ_eq_append_getElem (by rw [List.length_drop]; have := HB.out.2; omega), List.getElem_drop]
          congr 3
          omega
        generalize B[at_]'(by have := HB.out.2; omega) = y at *
        have HT := Lib.hid htk
        clear hlg heq2 hok hL1 hL2 b1 b2 htk hrd hcell
        have hcl2 : ∀ z, Below wr.heap.size wr z → z.cell? ⟨g, off + at_, none⟩ = some (.int .u8 (y.toNat : Int)) := fun z hz => (hz.cell (p := ⟨g, off + at_, none⟩) hgl).trans hcl
        have HCL := Lib.hid hcl2
        clear hcl2 hcl
        go_wp2_with (first
          | (go_at_call 26; refine (HLG.out).mono ?_; rintro en w2 ⟨rfl, hb2⟩; have hcl := HCL.out _ hb2; have HB2 := Lib.hid hb2; have hz2 := hb2.size; clear hb2)
          | (at_builtin; refine wp_app u8ty rfl (.tmp 20) (.tmp 25) rfl rfl rfl ((HS.out.own2.below HB2.out (Nat.le_refl _)).alloc _) (Rd.one _ _ _) (one1 rfl) (by omega) (by omega) (by simp; omega) ?_; intro S4 M4 d4 w4 ho4 hN4 hb4 hg4)
          | fail)
        go_roundw
        case rel =>
          have hoA := ((HS.out.own.below HB2.out (Nat.le_refl _)).alloc (.cells #[.int .u8 (y.toNat : Int)] 5)).kept hg4.1 (by
            cases hA : blk A with
            | none => exact Or.inl rfl
            | some k => exact Or.inr (fun e => HS.out.dis k hA e.symm))
          have e1 : bv ((B.drop told).take (at_ - told)) ++ [Value.int .u8 (y.toNat : Int)] = bv ((B.drop told).take (at_ + 1 - told)) := by
            rw [HT.out, bv_app]
            rfl
          rw [e1] at ho4
          have hbb : Below w.heap.size w w4 := HS.out.below.trans ((HB2.out.mono hws).trans (((Below.refl _ w2).alloc (by omega) _).trans hb4))
          refine ⟨A, N, c, S4, M4, d4, told, at_ + 1, fu, out, rfl, rfl, by go_num, Lib.hid ⟨hoA, ho4, fun k hk hs => ?_, hbb, ⟨by omega, by omega⟩, by have := HS.out.fu; omega, HE.out.symm, hfew⟩⟩
          rcases hg4.2 with h5 | ⟨q, h5, h6⟩
          · exact HS.out.dis k hk (h5 ▸ hs)
          · have h7 := (HS.out.own.blk_lt k hk).2
            rw [h6] at hs
            injection hs with hs
            simp at h5
            omega
        case measure => simp only [intOf]; omega
      · rw [b2, if_neg (by omega), hL1, hL2] at heq2
        have hL3 : ¬ (L1 : Int) < 3 := by omega
        have hok2 : L1 ≤ 66 ∧ at_ + L1 ≤ n ∧ L2 ≤ 512 := by
          rw [b2, hL1, hL2] at hok
          have := HB.out.2
          rcases hok with h | h
          · have h2 := congrArg Prod.fst h; rw [hL1] at h2; simp at h2; omega
          · omega
        have HE := Lib.hid heq2
        clear hlg heq2 hok b2 hL1 hL2 hrd
        go_wp2_with (first
          | (go_at_call 26; refine (HLG.out).mono ?_; rintro en w2 ⟨rfl, hb2⟩; have HB2 := Lib.hid (And.intro (hb2.mono hws) (And.intro (HS.out.own.below hb2 (Nat.le_refl _)) (HS.out.own2.below hb2 (Nat.le_refl _)))); have hz2 := hb2.size; clear hb2)
          | (go_at_call 27; refine (plain_any S M d w2.heap.size _ w2 HB2.out.2.2.rd (Nat.le_refl _) HB2.out.2.2.cap.1 hM).mono ?_; rintro en w3 ⟨A3, N3, c3, rfl, ho3, hb3⟩; have HB3 := Lib.hid (And.intro (HB2.out.1.trans (hb3.mono (by omega))) (And.intro (HB2.out.2.1.below hb3 (Nat.le_refl _)) ho3)); have hz3 := hb3.size; have hN3 : N3 ≤ 2097152 := (by have h9 := ho3.len; rw [bv_len] at h9; have h8 := lits_le _ ((B.drop told).take (at_ - told)) (Nat.le_refl _); rw [List.length_take] at h8; omega); clear ho3 hb3)
          | (at_builtin; refine wp_app u8ty rfl (.tmp 29) (.tmp 31) rfl rfl rfl HB3.out.2.1 HB3.out.2.2.rd (bv_one _) (by omega) (by omega) (by omega) ?_; intro A4 N4 c4 w4 ho4 hN4 hb4 _; rw [← bv_app] at ho4; have HB4 := Lib.hid (And.intro (HB3.out.1.trans hb4) ho4); have hz4 := hb4.size; clear ho4 hb4)
          | (at_builtin; refine wp_app u8ty rfl (.tmp 33) (.tmp 37) rfl rfl rfl (HB4.out.2.alloc _) (Rd.one _ _ _) (one1 rfl) (by omega) (by omega) (by simp; omega) ?_; intro A5 N5 c5 w5 ho5 hN5 hb5 _; have HB5 := Lib.hid (And.intro (HB4.out.1.trans (((Below.refl w.heap.size w4).alloc (by omega) _).trans hb5)) ho5); have hz5 : w4.heap.size ≤ w5.heap.size := (Nat.le_trans (by simp) hb5.size); clear ho5 hb5)
          | (go_at_call 28; refine (refNumber_any A5 N5 c5 w5.heap.size (L2 : Nat) (out ++ lits ((B.drop told).take (at_ - told)) ++ [UInt8.ofNat (L1 + 125)]) w5 (by have h := HB5.out.2.rd; rw [u8_app (out ++ lits ((B.drop told).take (at_ - told))) L1 (by omega), ← bv_app] at h; exact h) (Nat.le_refl _) (by omega) (by omega) (by omega)).mono ?_; rintro en w6 ⟨A6, N6, c6, rfl, ho6, hb6⟩)
          | fail)
        go_roundw
        case rel =>
          have hfw : (out ++ lits ((B.drop told).take (at_ - told)) ++ [UInt8.ofNat (L1 + 125)] ++ numB L2).length ≤ 16 * (at_ + L1) := by
            have h8 := lits_le _ ((B.drop told).take (at_ - told)) (Nat.le_refl _)
            have h9 := numB_le L2
            rw [List.length_take] at h8
            simp only [List.length_append, List.length_singleton]
            omega
          rw [Int.toNat_natCast] at ho6
          exact ⟨A6, N6, c6, none, 0, 0, at_ + L1, at_ + L1, fu, _, rfl, rfl, by go_num, Lib.hid ⟨ho6.base (by omega), (by rw [Nat.sub_self, List.take_zero]; exact Ow.nil _ _ _), (fun k _ hs => by cases hs), HS.out.below.trans (HB5.out.1.trans (hb6.mono (by omega))), ⟨Nat.le_refl _, hok2.2.1⟩, by have := HS.out.fu; omega, HE.out.symm, hfw⟩⟩
        case measure => simp only [intOf]; omega
    · have hai : ¬ (at_ : Int) < (n : Int) := by omega
      obtain rfl : at_ = n := by omega
      have heq := HS.out.eq
      rw [shA_end B fuel at_ told out (by have := HB.out.2; omega)] at heq
      have htk : (B.drop told).take (at_ - told) = B.drop told := List.take_of_length_le (by rw [List.length_drop]; have := HB.out.2; omega)
      have ho2 := HS.out.own2
      rw [htk] at ho2
      have HE := Lib.hid (And.intro heq ho2)
      clear heq ho2 htk
      go_wp2_with (first
        | (go_at_call 27; refine (plain_any S M d _ _ _ HE.out.2.rd (Nat.le_refl _) HE.out.2.cap.1 hM).mono ?_; rintro en w3 ⟨A3, N3, c3, rfl, ho3, hb3⟩; have HB3 := Lib.hid (And.intro (hb3.mono hws) (And.intro (HS.out.own.below hb3 (Nat.le_refl _)) ho3)); have hz3 := hb3.size; have hN3 : N3 ≤ 2097152 := (by have h9 := ho3.len; rw [bv_len] at h9; have h8 := lits_le _ (B.drop told) (Nat.le_refl _); rw [List.length_drop] at h8; have := HB.out.2; omega); clear ho3 hb3)
        | (at_builtin; refine wp_app u8ty rfl (.tmp 44) (.tmp 46) rfl rfl rfl HB3.out.2.1 HB3.out.2.2.rd (bv_one _) (by omega) (by omega) (by omega) ?_; intro A4 N4 c4 w4 ho4 hN4 hb4 _)
        | fail)
      go_ret
      rw [← bv_app, HE.out.1] at ho4
      exact ⟨A4, N4, c4, rfl, ho4, HS.out.below.trans (HB3.out.1.trans hb4)⟩
end Go.Proofs.Ytnikecjkaciplaa.lz
