/- Contract of packet.parse. -/
import Derived.Test.YtjpdamighffgfaaPkH
namespace Go.Proofs.Ytjpdamighffgfaa.pk
open Go.RowKit Mem SM lib sum PM
set_option linter.unusedVariables false
/-- what is left of the options, and the packet that is being read -/
def RestR (w : World) (B g x1 x2 q4 q6 q8 q12 x3 q16 : Nat) (pr or : Int) (dat : List UInt8) (Ad : Option Addr) (Nd Cd : Nat) (r : List UInt8) (s : Value) (wx : World) : Prop :=
  ∃ A n c, s = .slice A n c ∧ n ≤ c ∧ n ≤ 255 ∧ Rd wx B A n (bv r) ∧ PAt w g x1 x2 q4 q6 q8 q12 x3 q16 pr or dat Ad Nd Cd wx
/-- what parse leaves -/
def ParsePost (l : List UInt8) (w : World) (e : Ending) (w' : World) : Prop := ∃ A N c, e = .returned (pkV (parse1 l) A N c) ∧ Ow w' w.heap.size 5 A N c (bv (l.drop (dataAt l))) ∧ Below w.heap.size w w'
/-- the packet that is told -/
structure ResAt (w : World) (p : Pk) (A : Option Addr) (n c : Nat) (wx : World) : Prop where
  at_ : PkAt wx w.heap.size p A n c
  ow : Ow wx w.heap.size 5 A n c (bv p.data)
  bel : Below w.heap.size w wx
theorem resA {w v : World} {g x1 x2 q4 q6 q8 q12 x3 q16 : Nat} {pr or : Int} {dat : List UInt8} {Ad : Option Addr} {Nd Cd : Nat} (hgw : g = w.heap.size) (hz : ZAt v g) (hb : Below w.heap.size w v) (ho : Ow v w.heap.size 5 Ad Nd Cd (bv dat)) (hne : blk Ad = none ∨ blk Ad ≠ some g) :
    ResAt w ⟨x1, x2, q4, q6, q8, q12, x3, q16, pr, or, dat⟩ Ad Nd Cd (((((((((((v.setCell ⟨g, 0, none⟩ (.int .i64 (x1 : Int))).setCell ⟨g, 1, none⟩ (.int .i64 (x2 : Int))).setCell ⟨g, 2, none⟩ (.int .i64 (q4 : Int))).setCell ⟨g, 3, none⟩ (.int .i64 (q6 : Int))).setCell ⟨g, 4, none⟩ (.int .u32 (q8 : Int))).setCell ⟨g, 5, none⟩ (.int .u32 (q12 : Int))).setCell ⟨g, 6, none⟩ (.int .i64 (x3 : Int))).setCell ⟨g, 7, none⟩ (.int .i64 (q16 : Int))).setCell ⟨g, 8, none⟩ (.int .i64 pr)).setCell ⟨g, 9, none⟩ (.int .i64 or)).setCell ⟨g, 10, none⟩ (.slice Ad Nd Cd)) := by
  obtain ⟨u, hu⟩ := hz.all
  have h := (set_step (set_step (set_step (set_step (set_step (set_step (set_step (set_step (set_step (set_step (set_step hu 0 (by omega) (.int .i64 (x1 : Int))) 1 (by omega) (.int .i64 (x2 : Int))) 2 (by omega) (.int .i64 (q4 : Int))) 3 (by omega) (.int .i64 (q6 : Int))) 4 (by omega) (.int .u32 (q8 : Int))) 5 (by omega) (.int .u32 (q12 : Int))) 6 (by omega) (.int .i64 (x3 : Int))) 7 (by omega) (.int .i64 (q16 : Int))) 8 (by omega) (.int .i64 pr)) 9 (by omega) (.int .i64 or)) 10 (by omega) (.slice Ad Nd Cd))
  subst hgw
  exact ⟨⟨h 0 (by omega), h 1 (by omega), h 2 (by omega), h 3 (by omega), h 4 (by omega), h 5 (by omega), h 6 (by omega), h 7 (by omega), h 8 (by omega), h 9 (by omega), h 10 (by omega)⟩, (Ow.setCell (Ow.setCell (Ow.setCell (Ow.setCell (Ow.setCell (Ow.setCell (Ow.setCell (Ow.setCell (Ow.setCell (Ow.setCell (Ow.setCell ho hne) hne) hne) hne) hne) hne) hne) hne) hne) hne) hne), set11 hb (Nat.le_refl _) _ _ _ _ _ _ _ _ _ _ _⟩
set_option maxRecDepth 50000 in
set_option maxHeartbeats 16000000 in
theorem parse_any (bb oo n c B : Nat) (l : List UInt8) (w : World) (h : Rd w B (some ⟨bb, oo, none⟩) n (bv l)) (hB : B ≤ w.heap.size) (hc : n ≤ c) (hn : n ≤ 1099511627776) (h22 : 22 ≤ n) (hat : dataAt l ≤ n) :
    Calls Try.prog 42 #[.slice (some ⟨bb, oo, none⟩) n c] w (ParsePost l w) := by
  obtain ⟨w1, hw1⟩ : ∃ w1, w1 = w.alloc (.cells #[.int .i64 0, .int .i64 0, .int .i64 0, .int .i64 0, .int .u32 0, .int .u32 0, .int .i64 0, .int .i64 0, .int .i64 0, .int .i64 0, .slice none 0 0] 25) := ⟨_, rfl⟩
  have hb01 : Below w.heap.size w w1 := by rw [hw1]; exact (Below.refl _ _).alloc (Nat.le_refl _) _
  have hz1 : ZAt w1 w.heap.size := by rw [hw1]; exact ZAt.new _
  have hs1 : w1.heap.size = w.heap.size + 1 := by rw [hw1]; simp
  have HZ1 := Lib.hid hz1
  have HS1 := Lib.hid hs1
  have HB01 := Lib.hid hb01
  have h := h.below hb01 hB
  have hB : B ≤ w1.heap.size := Nat.le_trans hB hb01.size
  have HW1 := Lib.hid hw1
  clear hw1 hz1 hs1 hb01
  have hl : l.length = n := by rw [← bv_len, h.len]
  obtain ⟨q4, hq4⟩ : ∃ q, q = numB (cutB l 4 2) := ⟨_, rfl⟩
  obtain ⟨q6, hq6⟩ : ∃ q, q = numB (cutB l 6 2) := ⟨_, rfl⟩
  obtain ⟨q8, hq8⟩ : ∃ q, q = numB (cutB l 8 4) := ⟨_, rfl⟩
  obtain ⟨q12, hq12⟩ : ∃ q, q = numB (cutB l 12 4) := ⟨_, rfl⟩
  obtain ⟨q16, hq16⟩ : ∃ q, q = numB (cutB l 16 2) := ⟨_, rfl⟩
  have l4 : q4 < 65536 := by rw [hq4]; exact num2 l 4 n hl (by omega)
  have l6 : q6 < 65536 := by rw [hq6]; exact num2 l 6 n hl (by omega)
  have l8 : q8 < 4294967296 := by rw [hq8]; exact num4 l 8 n hl (by omega)
  have l12 : q12 < 4294967296 := by rw [hq12]; exact num4 l 12 n hl (by omega)
  have l16 : q16 < 65536 := by rw [hq16]; exact num2 l 16 n hl (by omega)
  have G4 := Lib.hid (gather_cut (c := c - 4) h hB 4 2 q4 (by omega) (by omega) hq4)
  have G6 := Lib.hid (gather_cut (c := c - 6) h hB 6 2 q6 (by omega) (by omega) hq6)
  have G8 := Lib.hid (gather_cut (c := c - 8) h hB 8 4 q8 (by omega) (by omega) hq8)
  have G12 := Lib.hid (gather_cut (c := c - 12) h hB 12 4 q12 (by omega) (by omega) hq12)
  have G16 := Lib.hid (gather_cut (c := c - 16) h hB 16 2 q16 (by omega) (by omega) hq16)
  have HQ := Lib.hid (show q4 = _ ∧ q6 = _ ∧ q8 = _ ∧ q12 = _ ∧ q16 = _ from ⟨hq4, hq6, hq8, hq12, hq16⟩)
  clear hq4 hq6 hq8 hq12 hq16
  obtain ⟨x1, hx1⟩ : ∃ x, x = (l.getD 1 0).toNat := ⟨_, rfl⟩
  obtain ⟨x2, hx2⟩ : ∃ x, x = (l.getD 2 0).toNat := ⟨_, rfl⟩
  obtain ⟨x3, hx3⟩ : ∃ x, x = (l.getD 3 0).toNat := ⟨_, rfl⟩
  have b1 := rd_cell h 1 (by omega)
  have b2 := rd_cell h 2 (by omega)
  have b3 := rd_cell h 3 (by omega)
  rw [← hx1] at b1
  rw [← hx2] at b2
  rw [← hx3] at b3
  have hbb : bb < w1.heap.size := cell_lt b1
  have e1 : x1 < 256 := by rw [hx1]; exact UInt8.toNat_lt _
  have e2 : x2 < 256 := by rw [hx2]; exact UInt8.toNat_lt _
  have e3 : x3 < 256 := by rw [hx3]; exact UInt8.toNat_lt _
  have HX := Lib.hid (show x1 = _ ∧ x2 = _ ∧ x3 = _ from ⟨hx1, hx2, hx3⟩)
  clear hx1 hx2 hx3
  have hd : ∀ w', Below w1.heap.size w1 w' → w'.cell? ⟨bb, oo + 1, none⟩ = some (.int .u8 (x1 : Int)) ∧ w'.cell? ⟨bb, oo + 2, none⟩ = some (.int .u8 (x2 : Int)) ∧ w'.cell? ⟨bb, oo + 3, none⟩ = some (.int .u8 (x3 : Int)) ∧ Below w1.heap.size w1 w' := fun w' hb =>
    ⟨(hb.cell (p := ⟨bb, oo + 1, none⟩) hbb).trans b1, (hb.cell (p := ⟨bb, oo + 2, none⟩) hbb).trans b2, (hb.cell (p := ⟨bb, oo + 3, none⟩) hbb).trans b3, hb⟩
  have HD := Lib.hid hd
  clear hd b1 b2 b3
  have Hl := Lib.hid hl
  clear hl
  obtain ⟨at_, hat2⟩ : ∃ at_ : Nat, at_ = dataAt l := ⟨_, rfl⟩
  rw [← hat2] at hat
  have Hat := Lib.hid hat2
  have hda := dataAt_any bb oo n c B l
  rw [← hat2] at hda
  have HDA := Lib.hid hda
  clear hat2 hda
  have hb1 : Below w1.heap.size w1 w1 := Below.refl _ _
  go_enter Try.func42, Try.ntmps42
  go_upto_region 1 with fail
  rw [← HW1.out]
  go_wp2_with fail
  refine (HDA.out w1 h (by omega)).mono ?_
  rintro e w1' ⟨rfl, rfl⟩
  have f4 : ¬ c = 4 := by omega
  have f6 : ¬ c = 6 := by omega
  have f8 : ¬ c = 8 := by omega
  have f12 : ¬ c = 12 := by omega
  have f16 : ¬ c = 16 := by omega
  have t1 : (1 : Int) < (n : Int) := by omega
  have t2 : (2 : Int) < (n : Int) := by omega
  have t3 : (3 : Int) < (n : Int) := by omega
  have t6 : (6 : Int) ≤ (c : Int) := by omega
  have t8 : (8 : Int) ≤ (c : Int) := by omega
  have t12 : (12 : Int) ≤ (c : Int) := by omega
  have t16 : (16 : Int) ≤ (c : Int) := by omega
  have t18 : (18 : Int) ≤ (c : Int) := by omega
  have ta0 : (0 : Int) ≤ (at_ : Int) := by omega
  have ta1 : (at_ : Int) ≤ (n : Int) := by omega
  obtain ⟨d1, d2, d3, _⟩ := HD.out w1 hb1
  have v1 : IntKind.i64.wrap (x1 : Int) = x1 := IntWalk.i64_in _ (by omega)
  have v2 : IntKind.i64.wrap (x2 : Int) = x2 := IntWalk.i64_in _ (by omega)
  have v3 : IntKind.i64.wrap (x3 : Int) = x3 := IntWalk.i64_in _ (by omega)
  have v4 : IntKind.i64.wrap (q4 : Int) = q4 := IntWalk.i64_in _ (by omega)
  have v6 : IntKind.i64.wrap (q6 : Int) = q6 := IntWalk.i64_in _ (by omega)
  have v16 : IntKind.i64.wrap (q16 : Int) = q16 := IntWalk.i64_in _ (by omega)
  have v8 : IntKind.u32.wrap (q8 : Int) = q8 := by rw [wrap_u32]; omega
  have v12 : IntKind.u32.wrap (q12 : Int) = q12 := by rw [wrap_u32]; omega
  have hda : ∀ w', Below w1.heap.size w1 w' → Rd w' B (if c = at_ then some ⟨bb, oo, none⟩ else some ⟨bb, oo + at_, none⟩) (n - at_) (bv (l.drop at_)) := fun w' hb => by
    by_cases hcat : c = at_
    · rw [if_pos hcat]
      have : n - at_ = 0 := by omega
      have hz := (rd_rest h at_ hat).below hb hB
      rw [this] at hz ⊢
      have : l.drop at_ = [] := List.drop_of_length_le (by have := Hl.out; omega)
      rw [this]
      exact Rd.nil _ _ _
    · rw [if_neg hcat]
      exact (rd_rest h at_ hat).below hb hB
  obtain ⟨Aat, hA⟩ : ∃ Aat : Option Addr, (if c = at_ then some ⟨bb, oo, none⟩ else some ⟨bb, oo + at_, none⟩) = Aat := ⟨_, rfl⟩
  rw [hA] at hda
  have HDa := Lib.hid hda
  clear hda
  go_upto_region 2 with fail
  go_cut [4] (fun s4 wx => HeadAt w1 x1 x2 q4 q6 q8 q12 x3 q16 (l.drop at_) s4 wx)
  case first =>
    go_wp2_with fail
    go_region_held3 (fun w' => w'.cell? ⟨bb, oo + 1, none⟩ = some (.int .u8 (x1 : Int)) ∧ w'.cell? ⟨bb, oo + 2, none⟩ = some (.int .u8 (x2 : Int)) ∧ w'.cell? ⟨bb, oo + 3, none⟩ = some (.int .u8 (x3 : Int)) ∧ Below w1.heap.size w1 w')
      (first | with_reducible exact HD.out _ (below_drew hb1) | (go_split_ands; first | exact HD.out _ (by with_reducible assumption) | with_reducible exact HD.out _ (below_drew (balloc hb1 _)) | with_reducible exact HD.out _ hbx | with_reducible exact HD.out _ (set11 hbx hb1.size _ _ _ _ _ _ _ _ _ _ _) | with_reducible exact HD.out _ (below_drew (balloc hbx _)) | with_reducible exact HD.out _ (balloc hbx _) | fail) | fail)
      (first
        | (go_at_call 49; go_split_ands; (first | (with_reducible refine (G4.out _ (by with_reducible assumption)).mono ?_) | (with_reducible refine (G6.out _ (by with_reducible assumption)).mono ?_) | (with_reducible refine (G8.out _ (by with_reducible assumption)).mono ?_) | (with_reducible refine (G12.out _ (by with_reducible assumption)).mono ?_) | (with_reducible refine (G16.out _ (by with_reducible assumption)).mono ?_) | fail); rintro e w' ⟨rfl, rfl⟩)
        | (go_split_ands; refine step_app u8ty rfl (.const (.slice none 0 0)) (.tmp 42) rfl rfl rfl (Ow.nil _ w1.heap.size _) (HDa.out _ (by with_reducible assumption)) (bv_one _) (by omega) (by omega) (Below.size (by with_reducible assumption)) ?_; intro Ad Nd Cd v5 hod hNd hbd hgd; rw [List.nil_append] at hod; have hbx := Below.trans (by with_reducible assumption) hbd; have hgb := hgd.below (Nat.le_refl _) (fun k h => by cases h); try (obtain ⟨zc0, zc1, zc2, zc3, zc4, zc5, zc6, zc7, zc8, zc9, zc10, zf0, zf1, zf2, zf3, zf4, zf5, zf6, zf7, zf8, zf9, zf10⟩ := (ZAt.new w1).drew.below hgb (by simp)))
        | fail)
    all_goals
      go_wp2_with fail
      go_meet
      first
        | with_reducible exact headB hbx hod
        | exact headA ⟨zc0, zc1, zc2, zc3, zc4, zc5, zc6, zc7, zc8, zc9, zc10, zf0, zf1, zf2, zf3, zf4, zf5, zf6, zf7, zf8, zf9, zf10⟩ hbx (Nat.le_refl _) hod (Grew.apart hgd (by simp))
        | fail
  case rest =>
    obtain ⟨g, Ad, Nd, Cd, rfl, hg, hne, hP⟩ := hcut
    clear d1 d2 d3 f4 f6 f8 f12 f16 t1 t2 t3 t6 t8 t12 t16 t18 v1 v2 v3 v4 v6 v8 v12 v16 G4 G6 G8 G12 G16 HDa HDA hA
    have hrw := h.below hP.bel hB
    have ho22 : 22 ≤ at_ := by have := Hat.out; unfold dataAt at this; omega
    obtain ⟨o, hoo⟩ : ∃ o, o = opts l := ⟨_, rfl⟩
    go_upto_region 4 with (refine wp_cut_lh u8ty rfl (.tmp 45) (.const (.int .i64 22)) (.tmp 46) rfl rfl rfl rfl hrw (by omega) (by omega) (by omega) hc ?_; intro A5 n5 c5 hn5 hc5 hr5)
    have hr5 : Rd wc B A5 n5 (bv o) := by
      have e : n5 = at_ - 22 := by omega
      have e2 : o = (l.drop 22).take (at_ - 22) := by rw [hoo]; unfold opts cutB; rw [← Hat.out]
      rw [e2, ← e, bv_take, bv_drop]
      exact hr5
    have hol : o.length = n5 := by rw [← bv_len, hr5.len]
    have hn5b : n5 ≤ 255 := by
      have h1 := Hat.out
      unfold dataAt at h1
      have := UInt8.toNat_lt (l.getD 20 0)
      omega
    have hc5b : n5 ≤ c5 := by omega
    have HO := Lib.hid hoo
    have HOL := Lib.hid hol
    clear hoo hol hn5 hc5 hrw
    go_cut [56] (fun s56 wx => s56 = .bool (hasO o 10 1) ∧ wx = wc)
    case first =>
      by_cases h10 : 10 ≤ n5
      · obtain ⟨b5, o5, rfl, hb5, hce⟩ := hr5.at_ (show 0 < n5 by omega)
        have hlo : 0 < o.length := by have := HOL.out; omega
        rw [bv_at o 0 hlo] at hce
        obtain ⟨y, hy⟩ : ∃ y, y = (o[0]).toNat := ⟨_, rfl⟩
        rw [← hy] at hce
        have hh : hasO o 10 1 = (y == 1) := by
          unfold hasO
          rw [decide_eq_true (by have := HOL.out; omega), hy]
          have : o.getD 0 0 = o[0] := by simp [hlo]
          rw [this, Bool.true_and, Bool.eq_iff_iff, beq_iff_eq, beq_iff_eq, ← UInt8.toNat_inj]
          rfl
        have HH := Lib.hid hh
        clear hh hy
        have hce0 : wc.cell? ⟨b5, o5, none⟩ = some (.int .u8 (y : Int)) := hce
        clear hce
        by_cases hy1 : y = 1
        · subst hy1
          go_wp2_with fail
          go_meet
          exact ⟨by rw [HH.out]; rfl, rfl⟩
        · have dy : ((y : Int) == 1) = false := by rw [beq_eq_false_iff_ne]; omega
          have dy2 : (y == 1) = false := by rw [beq_eq_false_iff_ne]; exact hy1
          clear hy1
          go_wp2_with fail
          go_meet
          exact ⟨by rw [HH.out, dy2], rfl⟩
      · have hh : hasO o 10 1 = false := by
          unfold hasO
          rw [decide_eq_false (by have := HOL.out; omega), Bool.false_and]
        have HH := Lib.hid hh
        clear hh
        go_wp2_with fail
        go_meet
        exact ⟨by rw [HH.out], rfl⟩
    case rest =>
      obtain ⟨rfl, rfl⟩ := hcut
      go_upto_if 56 with fail
      go_cut [5] (fun s5 wx => RestR w1 B g x1 x2 q4 q6 q8 q12 x3 q16 (probe1 o) 0 (l.drop at_) Ad Nd Cd (rest1 o) s5 wx)
      case first =>
        have p8 := hP.c8
        have fr8 := hP.f8
        cases hh : hasO o 10 1
        · have e1 : probe1 o = 0 := by unfold probe1; rw [if_neg (by rw [hh]; exact Bool.false_ne_true)]
          have e2 : rest1 o = o := by unfold rest1; rw [if_neg (by rw [hh]; exact Bool.false_ne_true)]
          have E := Lib.hid (And.intro e1 e2)
          clear e1 e2
          go_wp2_with fail
          go_meet
          exact ⟨A5, n5, c5, rfl, hc5b, hn5b, by rw [E.out.2]; exact hr5, by rw [E.out.1]; exact hP⟩
        · have h10 : 10 ≤ n5 := by
            have := HOL.out
            have h2 : decide (10 ≤ o.length) = true := by
              unfold hasO at hh
              exact (Bool.and_eq_true_iff.1 hh).1
            have := of_decide_eq_true h2
            omega
          obtain ⟨q, hq⟩ : ∃ q, q = numB (cutB o 2 8) := ⟨_, rfl⟩
          have e1 : probe1 o = wrap64 (q : Int) := by unfold probe1; rw [if_pos hh, s64_wrap, ← hq]
          have e2 : rest1 o = o.drop 10 := by unfold rest1; rw [if_pos hh]
          have E := Lib.hid (And.intro e1 e2)
          have Hq := Lib.hid hq
          clear e1 e2 hq
          have hbg : Below B wc (wc.setCell ⟨g, 8, none⟩ (.int .i64 (wrap64 (q : Int)))) := (Below.refl B wc).setCell (Nat.le_trans hB hg) _
          have hP2 := hP.probe (pr' := wrap64 (q : Int)) hg hne
          go_upto_region 6 with (first
            | (refine wp_cut_lh u8ty rfl (.tmp 57) (.const (.int .i64 2)) (.const (.int .i64 10)) rfl rfl rfl rfl hr5 (by omega) (by omega) (by omega) hc5b ?_; intro A8 n8 c8 hn8 hc8 hr8)
            | (go_at_call 49; have hn8' : n8 = 8 := (by omega); subst hn8'; refine (gather_any A8 8 c8 B (cutB o 2 8) _ (by unfold cutB; rw [bv_take, bv_drop]; exact hr8) (by omega)).mono ?_; rintro e w' ⟨rfl, rfl⟩; rw [← Hq.out])
            | fail)
          go_upto_if 1000 with (refine wp_cut_l u8ty rfl (.tmp 62) (.const (.int .i64 10)) rfl rfl rfl (hr5.below hbg (Nat.le_refl _)) (by omega) (by omega) hc5b ?_; intro A9 n9 c9 hn9 hc9 hr9 _)
          go_meet
          refine ⟨A9, n9, c9, rfl, by omega, by omega, ?_, by rw [E.out.1]; exact hP2⟩
          rw [E.out.2, bv_drop]
          exact hr9
      case rest =>
        obtain ⟨A6, n6, c6, rfl, hc6, hn6, hr6, hP6⟩ := hcut
        obtain ⟨r, hrr⟩ : ∃ r, r = rest1 o := ⟨_, rfl⟩
        rw [← hrr] at hr6
        have HRR := Lib.hid hrr
        have HRL := Lib.hid (show r.length = n6 by rw [← bv_len, hr6.len])
        clear hrr hP hr5
        go_upto_region 7 with fail
        go_cut [72] (fun s72 wx => s72 = .bool (hasO r 4 2) ∧ wx = wc)
        case first =>
          by_cases h10 : 4 ≤ n6
          · obtain ⟨b5, o5, rfl, hb5, hce⟩ := hr6.at_ (show 0 < n6 by omega)
            have hlo : 0 < r.length := by have := HRL.out; omega
            rw [bv_at r 0 hlo] at hce
            obtain ⟨y, hy⟩ : ∃ y, y = (r[0]).toNat := ⟨_, rfl⟩
            rw [← hy] at hce
            have hh : hasO r 4 2 = (y == 2) := by
              unfold hasO
              rw [decide_eq_true (by have := HRL.out; omega), hy]
              have : r.getD 0 0 = r[0] := by simp [hlo]
              rw [this, Bool.true_and, Bool.eq_iff_iff, beq_iff_eq, beq_iff_eq, ← UInt8.toNat_inj]
              rfl
            have HH := Lib.hid hh
            clear hh hy
            have hce0 : wc.cell? ⟨b5, o5, none⟩ = some (.int .u8 (y : Int)) := hce
            clear hce
            by_cases hy1 : y = 2
            · subst hy1
              go_wp2_with fail
              go_meet
              exact ⟨by rw [HH.out]; rfl, rfl⟩
            · have dy : ((y : Int) == 2) = false := by rw [beq_eq_false_iff_ne]; omega
              have dy2 : (y == 2) = false := by rw [beq_eq_false_iff_ne]; exact hy1
              clear hy1
              go_wp2_with fail
              go_meet
              exact ⟨by rw [HH.out, dy2], rfl⟩
          · have hh : hasO r 4 2 = false := by
              unfold hasO
              rw [decide_eq_false (by have := HRL.out; omega), Bool.false_and]
            have HH := Lib.hid hh
            clear hh
            go_wp2_with fail
            go_meet
            exact ⟨by rw [HH.out], rfl⟩
        case rest =>
          obtain ⟨rfl, rfl⟩ := hcut
          go_upto_if 72 with fail
          go_cut [5] (fun s5 wx => PAt w1 g x1 x2 q4 q6 q8 q12 x3 q16 (probe1 o) (origin1 r) (l.drop at_) Ad Nd Cd wx)
          case first =>
            have p9 := hP6.c9
            have fr9 := hP6.f9
            cases hh : hasO r 4 2
            · have e1 : origin1 r = 0 := by unfold origin1; rw [if_neg (by rw [hh]; exact Bool.false_ne_true)]
              have E := Lib.hid e1
              clear e1
              go_wp2_with fail
              go_meet
              rw [E.out]
              exact hP6
            · have h10 : 4 ≤ n6 := by
                have := HRL.out
                have h2 : decide (4 ≤ r.length) = true := by
                  unfold hasO at hh
                  exact (Bool.and_eq_true_iff.1 hh).1
                have := of_decide_eq_true h2
                omega
              obtain ⟨q, hq⟩ : ∃ q, q = numB (cutB r 2 2) := ⟨_, rfl⟩
              have hq16b : q < 65536 := by
                rw [hq]
                have := numB_lt (cutB r 2 2)
                rw [cut_len r 2 2 n6 HRL.out (by omega)] at this
                exact this
              have e1 : origin1 r = (q : Int) := by unfold origin1; rw [if_pos hh, s64_small _ (by rw [← hq]; omega), ← hq]
              have E := Lib.hid e1
              have Hq := Lib.hid hq
              clear e1 hq
              have hP7 := hP6.origin (or' := (q : Int)) hg hne
              go_upto_if 1000 with (first
                | (refine wp_cut_lh u8ty rfl (.tmp 73) (.const (.int .i64 2)) (.const (.int .i64 4)) rfl rfl rfl rfl hr6 (by omega) (by omega) (by omega) hc6 ?_; intro A8 n8 c8 hn8 hc8 hr8)
                | (go_at_call 49; have hn8' : n8 = 2 := (by omega); subst hn8'; refine (gather_any A8 2 c8 B (cutB r 2 2) _ (by unfold cutB; rw [bv_take, bv_drop]; exact hr8) (by omega)).mono ?_; rintro e w' ⟨rfl, rfl⟩; rw [← Hq.out])
                | fail)
              go_meet
              rw [E.out]
              exact hP7
          case rest =>
            have hP9 := hcut
            clear hcut hP6 hr6
            have hlt : w.heap.size < w1.heap.size := by rw [HS1.out]; omega
            have hzr := HZ1.out.below hP9.bel hlt
            have hbw : Below w.heap.size w wc := HB01.out.trans (hP9.bel.mono (Nat.le_of_lt hlt))
            have how : Ow wc w.heap.size 5 Ad Nd Cd (bv (l.drop at_)) := hP9.ow.base (Nat.le_of_lt hlt)
            have hnr : blk Ad = none ∨ blk Ad ≠ some w.heap.size := by
              cases hA : blk Ad with
              | none => exact Or.inl rfl
              | some k =>
                refine Or.inr fun e => ?_
                have := (hP9.ow.blk_lt k hA).1
                injection e with e
                omega
            obtain ⟨g0, hg0⟩ : ∃ g0, g0 = w.heap.size := ⟨_, rfl⟩
            rw [← hg0] at hzr hnr ⊢
            have HG0 := Lib.hid hg0
            clear hg0 hlt
            obtain ⟨pr, hpr⟩ : ∃ pr, pr = probe1 o := ⟨_, rfl⟩
            obtain ⟨or, hor⟩ : ∃ or, or = origin1 r := ⟨_, rfl⟩
            rw [← hpr, ← hor] at hP9
            have HPR := Lib.hid (And.intro hpr hor)
            clear hpr hor
            obtain ⟨_, _, p0, p1, p2, p3, p4, p5, p6, p7, p8, p9, p10, _, _⟩ := hP9
            have hzr' := hzr
            obtain ⟨z0, z1, z2, z3, z4, z5, z6, z7, z8, z9, z10, y0, y1, y2, y3, y4, y5, y6, y7, y8, y9, y10⟩ := hzr'
            have hP : ⟨x1, x2, q4, q6, q8, q12, x3, q16, pr, or, l.drop at_⟩ = parse1 l := by
              unfold parse1 headP
              rw [← Hat.out, ← HQ.out.1, ← HQ.out.2.1, ← HQ.out.2.2.1, ← HQ.out.2.2.2.1, ← HQ.out.2.2.2.2, ← HX.out.1, ← HX.out.2.1, ← HX.out.2.2, HPR.out.1, HPR.out.2, HRR.out, HO.out]
            have HPP := Lib.hid hP
            clear hP
            go_upto_region 9 with fail
            go_cut [4] (fun s4 wx => ResAt w ⟨x1, x2, q4, q6, q8, q12, x3, q16, pr, or, l.drop at_⟩ Ad Nd Cd wx)
            case first =>
              go_wp2_with fail
              go_meet
              exact resA HG0.out hzr hbw how hnr
            case rest =>
              obtain ⟨⟨r0, r1, r2, r3, r4, r5, r6, r7, r8, r9, r10⟩, hRo, hRb⟩ := hcut
              go_wp2
              refine bodyPost_ret (v := .agg #[.int .i64 (x1 : Int), .int .i64 (x2 : Int), .int .i64 (q4 : Int), .int .i64 (q6 : Int), .int .u32 (q8 : Int), .int .u32 (q12 : Int), .int .i64 (x3 : Int), .int .i64 (q16 : Int), .int .i64 pr, .int .i64 or, .slice Ad Nd Cd]) ?_ rfl ?_
              · rw [← HG0.out] at r0 r1 r2 r3 r4 r5 r6 r7 r8 r9 r10
                simp [results, Try.results42, go_sem, r0, r1, r2, r3, r4, r5, r6, r7, r8, r9, r10]
              · refine ⟨Ad, Nd, Cd, ?_, ?_, hRb⟩
                · rw [← HPP.out]
                  rfl
                · rw [← Hat.out]
                  exact hRo
end Go.Proofs.Ytjpdamighffgfaa.pk
