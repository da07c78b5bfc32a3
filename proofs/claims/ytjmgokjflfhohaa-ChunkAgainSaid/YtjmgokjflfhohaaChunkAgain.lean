/- ChunkAgain: for every input the law answers true and leaves its arguments as they were. -/
import Derived.Test.YtjmgokjflfhohaaRows
import Derived.Test.YtjmgokjflfhohaaChE
import Derived.ProofKit
import Derived.OpenShut
import Derived.ShutString
import Derived.ChangeOld
namespace Go.Proofs.Ytjmgokjflfhohaa.chunkAgainDone
open Go.RowKit Mem rb ch
set_option linter.unusedVariables false
theorem kept_rdB {w w' : World} {bad : Nat → Prop} {B n : Nat} {A : Option Addr} {xs : List Value} (h : Kept w w' bad) (hr : Rd w B A n xs) (hB : B ≤ w.heap.size) (hb : ∀ i, i < B → ¬ bad i) : Rd w' B A n xs := by
  refine ⟨hr.len, fun hn => ?_⟩
  obtain ⟨c, off, rfl, hc, hcell⟩ := hr.addr hn
  have hnc := hb c hc
  refine ⟨c, off, rfl, hc, fun k hk => ?_⟩
  rw [h.cell (a := ⟨c, off + k, none⟩) (show c < w.heap.size by omega) hnc]
  exact hcell k hk
theorem rd_if {w : World} {B n c N : Nat} {A : Option Addr} {xs : List Value} (h : Rd w B A n xs) (hN : N ≤ n) (hc : n ≤ c) : Rd w B (if c = N then A else Option.map (fun x => x.add N) A) (n - N) (xs.drop N) := by
  have hl := h.len
  by_cases e : c = N
  · have hz : n - N = 0 := by omega
    refine ⟨by rw [List.length_drop]; omega, fun hp => by omega⟩
  · rw [if_neg e]
    have hh := h.cut (l := N) (m := n - N) (by omega) (A' := Option.map (fun x => x.add N) A) (fun _ => rfl)
    rw [List.take_of_length_le (by rw [List.length_drop]; omega)] at hh
    exact hh
theorem rows_take {w : World} {base : Nat} {vs : List Value} {xs : List (List UInt8)} (h : ch.Rows w base vs xs) : ∀ k, ch.Rows w base (vs.take k) (xs.take k) := by
  induction h with
  | nil => intro k; simp; exact .nil
  | cons h1 _ ih =>
    intro k
    cases k with
    | zero => exact .nil
    | succ k => exact .cons h1 (ih k)
theorem rows_drop {w : World} {base : Nat} {vs : List Value} {xs : List (List UInt8)} (h : ch.Rows w base vs xs) : ∀ k, ch.Rows w base (vs.drop k) (xs.drop k) := by
  induction h with
  | nil => intro k; simp; exact .nil
  | cons h1 h2 ih =>
    intro k
    cases k with
    | zero => exact .cons h1 h2
    | succ k => exact ih k
theorem rows_parts {w : World} {B base n : Nat} {A : Option Addr} {vs : List Value} {ls : List (List UInt8)} (h : ch.Rows w base vs ls) (hr : Rd w B A n vs) (hB : w.heap.size ≤ B) : Parts w B A n ls := by
  refine ⟨by have h1 := hr.len; have h2 := h.len; omega, vs, hr, fun i hi => ?_⟩
  obtain ⟨Ai, ni, ki, e1, e2⟩ := h.at_ i hi
  have hl := e2.len
  rw [bv_len] at hl
  subst hl
  exact ⟨Ai, ki, e1, e2.cap.1, e2.rd.more hB⟩
theorem cut_kept {w w' : World} {bad : Nat → Prop} {c r b p n k base : Nat} {A : Option Addr} {pend hist : List UInt8} (h : CutB w c r b p A n k pend hist base) (hk : Kept w w' bad) (ht : TabB w' b p 1 0 (AV p) (FV p)) (h1 : ¬ bad c) (h2 : ¬ bad r) (h3 : ∀ i, blk A = some i → ¬ bad i) : CutB w' c r b p A n k pend hist base := by
  have hl := cell_lt h.c0
  exact ⟨by rw [hk.cell (a := ⟨c, 0, none⟩) hl h1]; exact h.c0, by rw [hk.cell (a := ⟨c, 1, none⟩) hl h1]; exact h.c1, fun o => by rw [hk.frozen (a := ⟨c, o, none⟩) hl h1]; exact h.fz o, hk.ow h.row h3, hk.rol h.rol h2, ht, h.cr, h.cb, h.rb, h.rc, h.rr, h.rt⟩
theorem cut_flush {w : World} {c r b p n k base : Nat} {A : Option Addr} {pend hist : List UInt8} (h : CutB w c r b p A n k pend hist base) (base' : Nat) : CutB (w.setCell ⟨c, 1, none⟩ (.slice none 0 0)) c r b p none 0 0 [] (hist ++ pend) base' := by
  have hl := cell_lt h.c0
  have K := Kept.set w c 1 (.slice none 0 0)
  refine ⟨by rw [World.cell?_setCell_other _ _ _ _ (ne_off (by omega))]; exact h.c0, World.cell?_setCell_same _ _ _ h.c1, fun o => by rw [frozen_set]; exact h.fz o, Ow.nil _ _ _, ?_, K.tab h.tab (fun e => h.cb e.symm), h.cr, h.cb, h.rb, by simp [blk], by simp [blk], by simp [blk]⟩
  rw [List.append_nil]
  exact K.rol h.rol (fun e => h.cr e.symm)
theorem cut_base {w : World} {c r b p base : Nat} {pend hist : List UInt8} (h : CutB w c r b p none 0 0 pend hist base) (base' : Nat) : CutB w c r b p none 0 0 [] (hist ++ pend) base' := by
  refine ⟨h.c0, h.c1, h.fz, Ow.nil _ _ _, by rw [List.append_nil]; exact h.rol, h.tab, h.cr, h.cb, h.rb, by simp [blk], by simp [blk], by simp [blk]⟩
theorem rd_two (w : World) (E : TypeId) (x y : Value) : Rd (w.alloc (.cells #[x, y] E)) (w.heap.size + 1) (some ⟨w.heap.size, 0, none⟩) 2 [x, y] := rd_alloc w E [x, y] (0, 0)
theorem parts_two {w : World} {B : Nat} {A1 A2 : Option Addr} {n c m d : Nat} {l r : List UInt8} (h1 : Rd w B A1 n (bv l)) (hc : n ≤ c) (h2 : Rd w B A2 m (bv r)) (hd : m ≤ d) (hB : B ≤ w.heap.size) (t : TypeId) :
    Parts (w.alloc (.cells #[.slice A1 n c, .slice A2 m d] t)) (w.heap.size + 1) (some ⟨w.heap.size, 0, none⟩) 2 [l, r] := by
  have hn : n = l.length := by rw [← h1.len, bv_len]
  have hm : m = r.length := by rw [← h2.len, bv_len]
  subst hn hm
  refine ⟨rfl, [.slice A1 l.length c, .slice A2 r.length d], rd_two w t _ _, fun i hi => ?_⟩
  have hb : Below B w (w.alloc (.cells #[.slice A1 l.length c, .slice A2 r.length d] t)) := (Below.refl B w).alloc hB _
  match i, hi with
  | 0, _ => exact ⟨A1, c, rfl, hc, (h1.below hb (Nat.le_refl _)).more (Nat.le_trans hB (by omega))⟩
  | 1, _ => exact ⟨A2, d, rfl, hd, (h2.below hb (Nat.le_refl _)).more (Nat.le_trans hB (by omega))⟩
set_option maxRecDepth 100000 in
theorem walk (p : Int) (A1 : Option Addr) (n1 c1 : Nat) (l1 : List UInt8) (A2 : Option Addr) (n2 c2 : Nat) (l2 : List UInt8) (A3 : Option Addr) (n3 c3 : Nat) (l3 : List UInt8) (A4 : Option Addr) (n4 c4 : Nat) (l4 : List UInt8) (w : World) (hp : (Lit.int .u64 p).wf = true) (hr1 : Rd w w.heap.size A1 n1 (bv l1)) (hc1 : n1 ≤ c1) (hn1 : n1 ≤ 9223372036854775807) (hr2 : Rd w w.heap.size A2 n2 (bv l2)) (hc2 : n2 ≤ c2) (hn2 : n2 ≤ 9223372036854775807) (hr3 : Rd w w.heap.size A3 n3 (bv l3)) (hc3 : n3 ≤ c3) (hn3 : n3 ≤ 9223372036854775807) (hr4 : Rd w w.heap.size A4 n4 (bv l4)) (hc4 : n4 ≤ c4) (hn4 : n4 ≤ 9223372036854775807) :
    Calls Try.prog 9 #[.int .u64 p, .slice A1 n1 c1, .slice A2 n2 c2, .slice A3 n3 c3, .slice A4 n4 c4] w fun e w' => e = .returned (.bool true) ∧ Below w.heap.size w w' := by
  replace hp := u64_nat hp
  obtain ⟨p, rfl, hp⟩ := hp
  by_cases hlong : 8192 < n1 ∨ 8192 < n2 ∨ 8192 < n3 ∨ 8192 < n4
  · have key : ∀ (h1 : Bool) (h2 : Bool) (h3 : Bool) (h4 : Bool), decide (8192 < (n1 : Int)) = h1 → decide (8192 < (n2 : Int)) = h2 → decide (8192 < (n3 : Int)) = h3 → decide (8192 < (n4 : Int)) = h4 → (h1 || h2 || h3 || h4) = true →
        Calls Try.prog 9 #[.int .u64 (p : Nat), .slice A1 n1 c1, .slice A2 n2 c2, .slice A3 n3 c3, .slice A4 n4 c4] w fun e w' => e = .returned (.bool true) ∧ Below w.heap.size w w' := by
      intro h1 h2 h3 h4 e1 e2 e3 e4 ho
      clear hlong
      cases h1 <;> cases h2 <;> cases h3 <;> cases h4 <;> first
        | (exfalso; revert ho; decide)
        | (simp only [decide_eq_true_eq, decide_eq_false_iff_not] at e1 e2 e3 e4
           go_enter Try.func9, Try.ntmps9
           go_wp2_with (go_at_call 12; refine (awake_any _).mono ?_; rintro e w4 ⟨rfl, hb4⟩)
           go_ret
           exact ⟨rfl, hb4⟩)
    refine key _ _ _ _ rfl rfl rfl rfl ?_
    rcases hlong with h | h | h | h
    · rw [decide_eq_true (by omega : (8192 : Int) < (n1 : Int))]; simp
    · rw [decide_eq_true (by omega : (8192 : Int) < (n2 : Int))]; simp
    · rw [decide_eq_true (by omega : (8192 : Int) < (n3 : Int))]; simp
    · rw [decide_eq_true (by omega : (8192 : Int) < (n4 : Int))]; simp
  · have hq := good_log (tq_good p)
    have hT := fresh_tab (tq p) w
    have hb : Below w.heap.size w (w.alloc (.cells (freshT (tq p)) 75)) := (Below.refl _ w).alloc (Nat.le_refl _) _
    have hsz : (w.alloc (.cells (freshT (tq p)) 75)).heap.size = w.heap.size + 1 := by simp
    have HT := fun w => Lib.hid (table_any p w hp)
    obtain ⟨q, hqd⟩ : ∃ q, tq p = q := ⟨_, rfl⟩
    unfold TablePost at HT
    rw [hqd] at hq hT hb hsz HT
    clear hqd
    have HS := Lib.hid (And.intro hb hsz)
    clear hb hsz
    have M1 : ¬ 8192 < n1 := by omega
    have M2 : ¬ 8192 < n2 := by omega
    have M3 : ¬ 8192 < n3 := by omega
    have M4 : ¬ 8192 < n4 := by omega
    clear hlong
    have HLL := Lib.hid (And.intro (show l3.length = n3 by rw [← bv_len, hr3.len]) (show l4.length = n4 by rw [← bv_len, hr4.len]))
    go_enter Try.func9, Try.ntmps9
    go_wp2_with fail
    refine (HT w).out.mono ?_
    rintro e w1 ⟨rfl, hw1⟩
    rw [← hw1] at hT HS
    clear hw1 HT
    have s1 := HS.out.2
    have hb1 := HS.out.1
    clear HS
    go_wp2_with fail
    refine (new_any w.heap.size q w1 hq (Or.inl hT)).mono ?_
    rintro e w2 ⟨ca, ra, rfl, hca, hra, hC, hK2⟩
    have s2 := hK2.size
    have lca := cell_lt hC.c0
    have lra := hC.rol.lt
    have hb2 : Below w.heap.size w w2 := hK2.below hb1 hb1.size (fun i hi e => by omega)
    go_wp2_with fail
    refine (new_any w.heap.size q w2 hq (Or.inr hC.tab)).mono ?_
    rintro e w3 ⟨cd, rd, rfl, hcd, hrd, hD, hK3⟩
    have s3 := hK3.size
    have lcd := cell_lt hD.c0
    have lrd := hD.rol.lt
    have hb3 : Below w.heap.size w w3 := hK3.below hb2 hb2.size (fun i hi e => by omega)
    have hC3 := cut_kept hC hK3 hD.tab (by omega) (by omega) (fun i hi => by cases hi)
    have HH := Lib.hid (And.intro hC3 hD)
    clear hC hC3 hD hT hK2 hK3
    go_wp2_with fail
    refine (write_any (hist := []) none 0 0 w1.heap.size A1 n1 c1 w.heap.size l1 w3 hq HH.out.1 (by decide) (by omega) (fun w' hk => kept_rdB hk (hr1.below hb3 (Nat.le_refl _)) hb3.size (fun i hi e => by
      rcases e with e | e | e
      · omega
      · omega
      · cases e)) (by omega)).mono ?_
    rintro e w4 ⟨A5, n5, k5, vs5, A6, m6, k6, rfl, hI⟩
    obtain ⟨h4', hC4⟩ := hI.cut
    have hb4 : Below w.heap.size w w4 := hI.kept.below hb3 hb3.size (fun i hi e => by
      rcases e with e | e | e
      · omega
      · omega
      · cases e)
    have hD4 := cut_kept HH.out.2 hI.kept hC4.tab (fun e => by
      rcases e with e | e | e
      · omega
      · omega
      · cases e) (fun e => by
      rcases e with e | e | e
      · omega
      · omega
      · cases e) (fun i hi => by cases hi)
    have s4 := hI.kept.size
    have HF := Lib.hid (flush_any A6 m6 k6 _ w4 hC4)
    have K5 := Kept.set w4 ca 1 (.slice none 0 0)
    have hC5 := cut_flush hC4 0
    have hD5 := cut_kept hD4 K5 hC5.tab (by omega) (by omega) (fun i hi => by cases hi)
    have hb5 : Below w.heap.size w (w4.setCell ⟨ca, 1, none⟩ (.slice none 0 0)) := K5.below hb4 hb4.size (fun i hi e => by omega)
    have s5 : (w4.setCell ⟨ca, 1, none⟩ (.slice none 0 0)).heap.size = w4.heap.size := World.size_setCell ..
    have HH5 := Lib.hid (And.intro hC5 (And.intro hD5 (And.intro hb5 s5)))
    clear hC4 hD4 hI K5 hC5 hD5 HH hb4 hb5 s5
    go_wp2_with fail
    refine HF.out.mono ?_
    rintro e w5 ⟨rfl, hw5⟩
    rw [← hw5] at HH5
    clear hw5 HF
    obtain ⟨hC5, hD5, hb5, s5⟩ := HH5.out
    clear HH5
    have HC5 := Lib.hid hC5
    have HD5 := Lib.hid hD5
    clear hC5 hD5
    go_wp2_with fail
    refine (write_any (hist := []) none 0 0 w2.heap.size A2 n2 c2 w.heap.size l2 w5 hq HD5.out (by decide) (by omega) (fun w' hk => kept_rdB hk (hr2.below hb5 (Nat.le_refl _)) hb5.size (fun i hi e => by
      rcases e with e | e | e
      · omega
      · omega
      · cases e)) (by omega)).mono ?_
    rintro e w6 ⟨A7, n7, k7, vs7, A8, m8, k8, rfl, hI⟩
    obtain ⟨h6', hD6⟩ := hI.cut
    have hb6 : Below w.heap.size w w6 := hI.kept.below hb5 hb5.size (fun i hi e => by
      rcases e with e | e | e
      · omega
      · omega
      · cases e)
    have hC6 := cut_kept HC5.out hI.kept hD6.tab (fun e => by
      rcases e with e | e | e
      · omega
      · omega
      · cases e) (fun e => by
      rcases e with e | e | e
      · omega
      · omega
      · cases e) (fun i hi => by cases hi)
    have s6 := hI.kept.size
    have HF := Lib.hid (flush_any A8 m8 k8 _ w6 hD6)
    have K7 := Kept.set w6 cd 1 (.slice none 0 0)
    have hD7 := cut_flush hD6 0
    have hC7 := cut_kept hC6 K7 hD7.tab (by omega) (by omega) (fun i hi => by cases hi)
    have hb7 : Below w.heap.size w (w6.setCell ⟨cd, 1, none⟩ (.slice none 0 0)) := K7.below hb6 hb6.size (fun i hi e => by omega)
    have s7 : (w6.setCell ⟨cd, 1, none⟩ (.slice none 0 0)).heap.size = w6.heap.size := World.size_setCell ..
    have HH7 := Lib.hid (And.intro hC7 (And.intro hD7 (And.intro hb7 s7)))
    clear hD6 hC6 hI K7 hC7 hD7 hb6 hb7 s7 HC5 HD5
    go_wp2_with fail
    refine HF.out.mono ?_
    rintro e w7 ⟨rfl, hw7⟩
    rw [← hw7] at HH7
    clear hw7 HF
    obtain ⟨hC7, hD7, hb7, s7⟩ := HH7.out
    clear HH7
    have HC7 := Lib.hid (cut_base hC7 w7.heap.size)
    have HD7 := Lib.hid hD7
    clear hC7 hD7
    go_wp2_with fail
    refine (write_any (hist := _) none 0 0 w7.heap.size A3 n3 c3 w.heap.size l3 w7 hq HC7.out (by decide) (Nat.le_refl _) (fun w' hk => kept_rdB hk (hr3.below hb7 (Nat.le_refl _)) hb7.size (fun i hi e => by
      rcases e with e | e | e
      · omega
      · omega
      · cases e)) (by omega)).mono ?_
    rintro e w8 ⟨A9, n9, k9, vs9, A10, m10, k10, rfl, hI⟩
    obtain ⟨h8', hC8⟩ := hI.cut
    have hb8 : Below w.heap.size w w8 := hI.kept.below hb7 hb7.size (fun i hi e => by
      rcases e with e | e | e
      · omega
      · omega
      · cases e)
    have hD8 := cut_kept HD7.out hI.kept hC8.tab (fun e => by
      rcases e with e | e | e
      · omega
      · omega
      · cases e) (fun e => by
      rcases e with e | e | e
      · omega
      · omega
      · cases e) (fun i hi => by cases hi)
    have s8 := hI.kept.size
    have HI8 := Lib.hid (And.intro hI.row (And.intro hI.rows hD8))
    clear hI hC8 hD8 HC7 HD7
    have hr38 := hr3.below hb8 (Nat.le_refl _)
    have hr48 := hr4.below hb8 (Nat.le_refl _)
    have hp2 := parts_two hr38 hc3 hr48 hc4 hb8.size 23
    have HP2 := Lib.hid hp2
    have sal : (w8.alloc (.cells #[.slice A3 n3 c3, .slice A4 n4 c4] 23)).heap.size = w8.heap.size + 1 := by simp
    have hb9 : Below w8.heap.size w8 (w8.alloc (.cells #[.slice A3 n3 c3, .slice A4 n4 c4] 23)) := (Below.refl _ _).alloc (Nat.le_refl _) _
    have HB9 := Lib.hid (And.intro hb9 sal)
    clear hp2 hb9 sal hr38 hr48
    have htot : tot [l3, l4] ≤ 1048576 := by
      have := HLL.out
      simp only [tot, List.map_cons, List.map_nil, List.sum_cons, List.sum_nil]
      omega
    have HTOT := Lib.hid htot
    clear htot
    go_wp2_with fail
    generalize w8.alloc (.cells #[.slice A3 n3 c3, .slice A4 n4 c4] 23) = w9 at *
    have s9 := HB9.out.2
    have hcc := concat_any (some ⟨w8.heap.size, 0, none⟩) 2 2 (w8.heap.size + 1) [l3, l4] w9 HP2.out (by omega) (by omega) HTOT.out
    refine hcc.mono ?_
    clear hcc
    rintro e w10 ⟨A11, n11, k11, rfl, ho11, hb11⟩
    have hfl : [l3, l4].flatten = l3 ++ l4 := by simp
    rw [hfl] at ho11
    obtain rfl : n11 = n3 + n4 := by
      have h1 := ho11.len
      rw [bv_len, List.length_append] at h1
      have := HLL.out
      omega
    have s10 := hb11.size
    have hb810 : Below w8.heap.size w8 w10 := HB9.out.1.trans (hb11.mono (by omega))
    have K10 : Kept w8 w10 (fun _ => False) := ⟨hb810.os, hb810.tape, hb810.output, hb810.size, fun i hi _ => hb810.block i hi⟩
    have hb10 : Below w.heap.size w w10 := hb8.trans (hb810.mono hb8.size)
    have hD10 := cut_base (cut_kept HI8.out.2.2 K10 (K10.tab HI8.out.2.2.tab (fun e => e)) (fun e => e) (fun e => e) (fun _ _ e => e)) w10.heap.size
    have hrow10 := K10.ow HI8.out.1 (fun _ _ e => e)
    have hrows10 := HI8.out.2.1.kept K10 (fun _ _ _ _ _ _ e => e)
    have HD10 := Lib.hid hD10
    have HR10 := Lib.hid (And.intro hrow10 hrows10)
    have HO := Lib.hid ho11
    clear hD10 hrow10 hrows10 hb810 HI8 HP2 HB9 K10 ho11 hfl hb11
    go_wp2_with fail
    refine (write_any (hist := _) none 0 0 w10.heap.size A11 (n3 + n4) k11 w10.heap.size (l3 ++ l4) w10 hq HD10.out (by decide) (Nat.le_refl _) (fun w' hk => hk.rd HO.out.rd (Nat.le_refl _) (fun a ea e => by
      have h9 := (HO.out.blk_lt a.block (by rw [ea]; rfl)).1
      rcases e with e | e | e
      · omega
      · omega
      · cases e)) (by omega)).mono ?_
    rintro e w11 ⟨A12, n12, k12, vs12, A13, m13, k13, rfl, hI⟩
    have hb11 : Below w.heap.size w w11 := hI.kept.below hb10 hb10.size (fun i hi e => by
      rcases e with e | e | e
      · omega
      · omega
      · cases e)
    have hrow11 := hI.kept.ow HR10.out.1 (fun i hi e => by
      have := (HR10.out.1.blk_lt i hi).1
      rcases e with e | e | e
      · omega
      · omega
      · cases e)
    have hrl := HR10.out.2.lt
    have hrows11 := HR10.out.2.kept hI.kept (fun B n k hm i hi e => by
      have := (hrl B n k hm i hi).1
      rcases e with e | e | e
      · omega
      · omega
      · cases e)
    have P1 := hrows11.parts hrow11
    have hag := cut_again (rule q) l3 l4
    have hlen1 := P1.len
    have hlen2 := hI.rows.len
    have hlen3 := hI.row.len
    have hn912 : n9 ≤ n12 := by omega
    have hcap := hI.row.cap.1
    have ht : (cutF (rule q) [] (l3 ++ l4)).1.take n9 = (cutF (rule q) [] l3).1 := by rw [← hlen1]; exact hag.1.symm
    have hcut := hI.row.rd.cut (l := 0) (m := n9) (by omega) (A' := A12) (fun _ => by cases A12 <;> simp [Addr.add])
    rw [List.drop_zero] at hcut
    have P2 := rows_parts (rows_take hI.rows n9) hcut (Nat.le_refl _)
    rw [ht] at P2
    have hc9 : n9 ≤ 8192 := by have := cut_count (rule q) l3 []; have := HLL.out; omega
    have hS := sameL_any A9 A12 n9 n9 k9 k12 _ _ _ _ w11 P1 P2 (by omega) (by omega)
    rw [decide_eq_true rfl] at hS
    have HSM := Lib.hid hS
    have i1 : (n9 : Int) ≤ (n12 : Int) := by omega
    have i2 : (n9 : Int) ≤ (k12 : Int) := by omega
    have s11 := hb11.size
    clear hS P1 P2 hcut ht hag hlen1 hlen2 hlen3 hI hrow11 hrows11 hrl HO HR10 HD10 hcap
    go_wp2_with (first
      | (go_at_call 18; refine HSM.out.mono ?_; rintro e w12 ⟨rfl, rfl⟩)
      | (go_at_call 12; refine (awake_any _).mono ?_; rintro e w13 ⟨rfl, hb13⟩))
    go_ret
    exact ⟨rfl, hb11.trans (hb13.mono s11)⟩
end Go.Proofs.Ytjmgokjflfhohaa.chunkAgainDone
namespace Go.Proofs.Ytjmgokjflfhohaa.chunkAgainDone
open Go.ChangeShapes Go.WideShapes Go.ChangeAt Go.RowKit Mem rb ch
set_option linter.unusedVariables false
theorem own : ownKnob Try.prog.godebug = none := by kernel_rfl
theorem laidOut : laidOutB Try.prog = true := by kernel_rfl
set_option maxRecDepth 100000 in
theorem lifted (os : Os) (started : os.Started) (H : Type) (enc : TypeId × Value → H) :
    ReturnsInHanded {} Try.checked os 9 .any (Rows.chunkAgainSpec.pre6 enc Try.prog Try.f9 Rows.chunkAgainRow.domain false) (Rows.chunkAgainSpec.post enc Try.prog Try.f9 false true false false) := by
  refine returnsInHanded_of_change (C := Try.checked) own started (by kernel_rfl) Try.func9
    (ChangeSpec.witness6 (enc := enc) (C := Try.checked) false ⟨#[], #[.int .u64 0, .slice none 0 0, .slice none 0 0, .slice none 0 0, .slice none 0 0], []⟩ 8 (by kernel_rfl) (by kernel_rfl) (by kernel_rfl) (by kernel_rfl)) ?_
  intro W base args ds gs before hval0 hW hcnd _
  have hval : ∀ (j : Nat) t v, Try.f9.params[j]? = some t → args[j]? = some v → Value.okWide Try.prog W .any base t v := hval0
  have hW' := hW
  obtain ⟨p, q, hA0, hV, rfl, hfz, hnd⟩ := hW
  have hA : DataW.TrodAll enc Try.prog W 0 (fun _ => true) true Try.f9.params.toList args.toList ds p := hA0
  rw [Try.params9] at hA hval
  obtain ⟨v0, vs0, d0, ds0, p0, q0, hargs, rfl, rfl, h0, r0⟩ := trodAll_cons hA
  obtain ⟨v1, vs1, d1, ds1, p1, q1, rfl, rfl, rfl, h1, r1⟩ := trodAll_cons r0
  obtain ⟨v2, vs2, d2, ds2, p2, q2, rfl, rfl, rfl, h2, r2⟩ := trodAll_cons r1
  obtain ⟨v3, vs3, d3, ds3, p3, q3, rfl, rfl, rfl, h3, r3⟩ := trodAll_cons r2
  obtain ⟨v4, vs4, d4, ds4, p4, q4, rfl, rfl, rfl, h4, r4⟩ := trodAll_cons r3
  obtain ⟨rfl, rfl, rfl⟩ := trodAll_nil r4
  obtain rfl : args = #[v0, v1, v2, v3, v4] := by cases args; simp_all
  obtain ⟨rfl, rfl⟩ := trodVars_none hV
  obtain ⟨a0, rfl, rfl, rfl, w0⟩ := open_int Try.underlying22 (hval 0 22 v0 rfl rfl) h0
  obtain ⟨a1, n1, c1, rfl⟩ := okWide_slice Try.underlying23 (hval 1 23 v1 rfl rfl)
  have k1 := h1
  have lt1 : ∀ x ∈ p1, x.block < W.heap.size := by obtain ⟨m, hm⟩ := k1; exact DataW.trod_lt m _ _ _ hm
  obtain ⟨l1, w1, m1, b1⟩ : ∃ l : List UInt8, Rd W W.heap.size a1 n1 (bv l) ∧ n1 ≤ c1 ∧ n1 ≤ 9223372036854775807 := by
    obtain ⟨fuel, hf⟩ := h1
    rcases open_ints Try.underlying23 Try.underlying5 (by kernel_rfl) hf with ⟨hcs, _⟩ | ⟨x, l, c, zs, hcs, _, hl, hm, hz, _, hcell, hwz⟩
    · simp [Value.cells] at hcs
      obtain ⟨rfl, rfl, rfl⟩ := hcs
      exact ⟨[], Rd.nil _ _ _, Nat.le_refl _, by omega⟩
    · simp [Value.cells] at hcs
      obtain ⟨rfl, rfl, rfl⟩ := hcs
      unfold maxLen at hm
      obtain ⟨l, hl2⟩ := rd_bytes hl (by simpa using hz) hcell hwz
      exact ⟨l, hl2, hl, by omega⟩
  obtain ⟨a2, n2, c2, rfl⟩ := okWide_slice Try.underlying23 (hval 2 23 v2 rfl rfl)
  have k2 := h2
  have lt2 : ∀ x ∈ p2, x.block < W.heap.size := by obtain ⟨m, hm⟩ := k2; exact DataW.trod_lt m _ _ _ hm
  obtain ⟨l2, w2, m2, b2⟩ : ∃ l : List UInt8, Rd W W.heap.size a2 n2 (bv l) ∧ n2 ≤ c2 ∧ n2 ≤ 9223372036854775807 := by
    obtain ⟨fuel, hf⟩ := h2
    rcases open_ints Try.underlying23 Try.underlying5 (by kernel_rfl) hf with ⟨hcs, _⟩ | ⟨x, l, c, zs, hcs, _, hl, hm, hz, _, hcell, hwz⟩
    · simp [Value.cells] at hcs
      obtain ⟨rfl, rfl, rfl⟩ := hcs
      exact ⟨[], Rd.nil _ _ _, Nat.le_refl _, by omega⟩
    · simp [Value.cells] at hcs
      obtain ⟨rfl, rfl, rfl⟩ := hcs
      unfold maxLen at hm
      obtain ⟨l, hl2⟩ := rd_bytes hl (by simpa using hz) hcell hwz
      exact ⟨l, hl2, hl, by omega⟩
  obtain ⟨a3, n3, c3, rfl⟩ := okWide_slice Try.underlying23 (hval 3 23 v3 rfl rfl)
  have k3 := h3
  have lt3 : ∀ x ∈ p3, x.block < W.heap.size := by obtain ⟨m, hm⟩ := k3; exact DataW.trod_lt m _ _ _ hm
  obtain ⟨l3, w3, m3, b3⟩ : ∃ l : List UInt8, Rd W W.heap.size a3 n3 (bv l) ∧ n3 ≤ c3 ∧ n3 ≤ 9223372036854775807 := by
    obtain ⟨fuel, hf⟩ := h3
    rcases open_ints Try.underlying23 Try.underlying5 (by kernel_rfl) hf with ⟨hcs, _⟩ | ⟨x, l, c, zs, hcs, _, hl, hm, hz, _, hcell, hwz⟩
    · simp [Value.cells] at hcs
      obtain ⟨rfl, rfl, rfl⟩ := hcs
      exact ⟨[], Rd.nil _ _ _, Nat.le_refl _, by omega⟩
    · simp [Value.cells] at hcs
      obtain ⟨rfl, rfl, rfl⟩ := hcs
      unfold maxLen at hm
      obtain ⟨l, hl2⟩ := rd_bytes hl (by simpa using hz) hcell hwz
      exact ⟨l, hl2, hl, by omega⟩
  obtain ⟨a4, n4, c4, rfl⟩ := okWide_slice Try.underlying23 (hval 4 23 v4 rfl rfl)
  have k4 := h4
  have lt4 : ∀ x ∈ p4, x.block < W.heap.size := by obtain ⟨m, hm⟩ := k4; exact DataW.trod_lt m _ _ _ hm
  obtain ⟨l4, w4, m4, b4⟩ : ∃ l : List UInt8, Rd W W.heap.size a4 n4 (bv l) ∧ n4 ≤ c4 ∧ n4 ≤ 9223372036854775807 := by
    obtain ⟨fuel, hf⟩ := h4
    rcases open_ints Try.underlying23 Try.underlying5 (by kernel_rfl) hf with ⟨hcs, _⟩ | ⟨x, l, c, zs, hcs, _, hl, hm, hz, _, hcell, hwz⟩
    · simp [Value.cells] at hcs
      obtain ⟨rfl, rfl, rfl⟩ := hcs
      exact ⟨[], Rd.nil _ _ _, Nat.le_refl _, by omega⟩
    · simp [Value.cells] at hcs
      obtain ⟨rfl, rfl, rfl⟩ := hcs
      unfold maxLen at hm
      obtain ⟨l, hl2⟩ := rd_bytes hl (by simpa using hz) hcell hwz
      exact ⟨l, hl2, hl, by omega⟩
  clear hA0 hval0
  refine (walk a0 a1 n1 c1 l1 a2 n2 c2 l2 a3 n3 c3 l3 a4 n4 c4 l4 W w0 w1 m1 b1 w2 m2 b2 w3 m3 b3 w4 m4 b4).mono fun e W' ⟨he, bel⟩ => ?_
  subst he
  exact ⟨_, rfl, _, _, _, [], _, [], hW', trodAll_mk1 (shut_bool Try.underlying4 _), (trodAll_cons_mk (shut_int Try.underlying22 w0) (trodAll_cons_mk (Below.trod laidOut (by kernel_rfl) (of_decide_eq_true (by kernel_rfl)) k1 bel lt1) (trodAll_cons_mk (Below.trod laidOut (by kernel_rfl) (of_decide_eq_true (by kernel_rfl)) k2 bel lt2) (trodAll_cons_mk (Below.trod laidOut (by kernel_rfl) (of_decide_eq_true (by kernel_rfl)) k3 bel lt3) (trodAll_cons_mk (Below.trod laidOut (by kernel_rfl) (of_decide_eq_true (by kernel_rfl)) k4 bel lt4) trodAll_mk0))))), rfl, bel.frame _, fun h => by cases h⟩

theorem over : Rows.chunkAgainRow.holds Try.pinned (OpenSpec.ofChange Rows.chunkAgainSpec) :=
  OpenClaim.holds_of_wide 9 Try.f9 rfl rfl rfl rfl rfl rfl rfl ⟨rfl, rfl, rfl, rfl, rfl⟩ rfl rfl rfl rfl rfl (by kernel_rfl) Try.func9 (by kernel_rfl)
    (of_decide_eq_true (by kernel_rfl)) (by unfold Func.isWrapper; first | (rw [if_pos (by decide +kernel)]; kernel_rfl) | (rw [if_neg (by decide +kernel)]; exact ⟨rfl, rfl⟩))
    (fun os started H enc _ => lifted os started H enc)
/-- the given statement -/
theorem proved : Rows.ChunkAgainSaid := over
#print axioms proved
end Go.Proofs.Ytjmgokjflfhohaa.chunkAgainDone
