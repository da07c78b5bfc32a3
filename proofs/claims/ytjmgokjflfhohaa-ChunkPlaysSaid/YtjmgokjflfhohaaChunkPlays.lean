/- ChunkPlays: for every input the law answers true and leaves its arguments as they were. -/
import Derived.Test.YtjmgokjflfhohaaRows
import Derived.Test.YtjmgokjflfhohaaChH
import Derived.ProofKit
import Derived.OpenShut
import Derived.ShutString
import Derived.ChangeOld
namespace Go.Proofs.Ytjmgokjflfhohaa.chunkPlaysDone
open Go.RowKit Mem rb ch
set_option linter.unusedVariables false
theorem cut_pend (e : List UInt8 → Bool) : ∀ (l pend : List UInt8), cutF e [] pend = ([], pend) → cutF e [] (cutF e pend l).2 = ([], (cutF e pend l).2)
  | [], pend, h => by rw [cut_nil]; exact h
  | x :: l, pend, h => by
    by_cases hx : e (pend ++ [x]) = true
    · rw [cut_hit l hx]
      exact cut_pend e l [] (cut_nil e [])
    · have hx' : e (pend ++ [x]) = false := by cases he : e (pend ++ [x]) <;> simp_all
      rw [cut_miss l hx']
      refine cut_pend e l (pend ++ [x]) ?_
      rw [cut_snoc, h]
      simp [hx']
theorem cut_from (e : List UInt8 → Bool) (l pend : List UInt8) (h : cutF e [] pend = ([], pend)) : cutF e [] (pend ++ l) = cutF e pend l := by
  rw [cut_app, h]; rfl
theorem kept_rdB {w w' : World} {bad : Nat → Prop} {B n : Nat} {A : Option Addr} {xs : List Value} (h : Kept w w' bad) (hr : Rd w B A n xs) (hB : B ≤ w.heap.size) (hb : ∀ i, blk A = some i → i < B → ¬ bad i) : Rd w' B A n xs := by
  refine ⟨hr.len, fun hn => ?_⟩
  obtain ⟨c, off, rfl, hc, hcell⟩ := hr.addr hn
  have hnc := hb c rfl hc
  refine ⟨c, off, rfl, hc, fun k hk => ?_⟩
  rw [h.cell (a := ⟨c, off + k, none⟩) (show c < w.heap.size by omega) hnc]
  exact hcell k hk
theorem cut_kept {w w' : World} {bad : Nat → Prop} {c r b p n k base : Nat} {A : Option Addr} {pend hist : List UInt8} (h : CutB w c r b p A n k pend hist base) (hk : Kept w w' bad) (ht : TabB w' b p 1 0 (AV p) (FV p)) (h1 : ¬ bad c) (h2 : ¬ bad r) (h3 : ∀ i, blk A = some i → ¬ bad i) : CutB w' c r b p A n k pend hist base := by
  have hl := cell_lt h.c0
  exact ⟨by rw [hk.cell (a := ⟨c, 0, none⟩) hl h1]; exact h.c0, by rw [hk.cell (a := ⟨c, 1, none⟩) hl h1]; exact h.c1, fun o => by rw [hk.frozen (a := ⟨c, o, none⟩) hl h1]; exact h.fz o, hk.ow h.row h3, hk.rol h.rol h2, ht, h.cr, h.cb, h.rb, h.rc, h.rr, h.rt⟩
theorem cut_flush {w : World} {c r b p n k base : Nat} {A : Option Addr} {pend hist : List UInt8} (h : CutB w c r b p A n k pend hist base) (base' : Nat) : CutB (w.setCell ⟨c, 1, none⟩ (.slice none 0 0)) c r b p none 0 0 [] (hist ++ pend) base' := by
  have hl := cell_lt h.c0
  have K := Kept.set w c 1 (.slice none 0 0)
  refine ⟨by rw [World.cell?_setCell_other _ _ _ _ (ne_off (by omega))]; exact h.c0, World.cell?_setCell_same _ _ _ h.c1, fun o => by rw [frozen_set]; exact h.fz o, Ow.nil _ _ _, ?_, K.tab h.tab (fun e => h.cb e.symm), h.cr, h.cb, h.rb, by simp [blk], by simp [blk], by simp [blk]⟩
  rw [List.append_nil]
  exact K.rol h.rol (fun e => h.cr e.symm)
theorem cut_base {w : World} {c r b p base : Nat} {pend hist : List UInt8} (h : CutB w c r b p none 0 0 pend hist base) (base' : Nat) : CutB w c r b p none 0 0 [] (hist ++ pend) base' := by
  refine ⟨h.c0, h.c1, h.fz, Ow.nil _ _ _, by rw [List.append_nil]; exact h.rol, h.tab, h.cr, h.cb, h.rb, by simp [blk], by simp [blk], by simp [blk]⟩
theorem xor_ff (x : UInt8) : bits .xor .u8 (x.toNat : Int) 255 = (((x ^^^ 255).toNat : Nat) : Int) := by
  rw [show (255 : Int) = ((255 : Nat) : Int) from rfl, u8_xor_nat _ _ x.toNat_lt (by decide), UInt8.toNat_xor]
  rfl
theorem rows_parts {w : World} {B base n : Nat} {A : Option Addr} {vs : List Value} {ls : List (List UInt8)} (h : ch.Rows w base vs ls) (hr : Rd w B A n vs) (hB : w.heap.size ≤ B) : Parts w B A n ls := by
  refine ⟨by have h1 := hr.len; have h2 := h.len; omega, vs, hr, fun i hi => ?_⟩
  obtain ⟨Ai, ni, ki, e1, e2⟩ := h.at_ i hi
  have hl := e2.len
  rw [bv_len] at hl
  subst hl
  exact ⟨Ai, ki, e1, e2.cap.1, e2.rd.more hB⟩
theorem rd_two (w : World) (E : TypeId) (x y : Value) : Rd (w.alloc (.cells #[x, y] E)) (w.heap.size + 1) (some ⟨w.heap.size, 0, none⟩) 2 [x, y] := rd_alloc w E [x, y] (0, 0)
theorem parts_two {w : World} {B : Nat} {A1 A2 : Option Addr} {n c m d : Nat} {l r : List UInt8} (h1 : Rd w B A1 n (bv l)) (hc : n ≤ c) (h2 : Rd w B A2 m (bv r)) (hd : m ≤ d) (hB : B ≤ w.heap.size) (t : TypeId) :
    Parts (w.alloc (.cells #[.slice A1 n c, .slice A2 m d] t)) (w.heap.size + 1) (some ⟨w.heap.size, 0, none⟩) 2 [l, r] := by
  have hn : n = l.length := by rw [← h1.len, bv_len]
  have hm : m = r.length := by rw [← h2.len, bv_len]
  subst hn hm
  refine ⟨rfl, [.slice A1 l.length c, .slice A2 r.length d], rd_two w t _ _, fun i hi => ?_⟩
  have hb : Below B w (w.alloc (.cells #[.slice A1 l.length c, .slice A2 r.length d] t)) := (Below.refl B w).alloc hB _
  match i, hi with
  | 0, _ => exact ⟨A1, c, rfl, hc, (h1.below hb (Nat.le_refl _)).more (Nat.le_trans hB (by omega))⟩
  | 1, _ => exact ⟨A2, d, rfl, hd, (h2.below hb (Nat.le_refl _)).more (Nat.le_trans hB (by omega))⟩
theorem Kept.weak {w w' : World} {bad bad' : Nat → Prop} (h : Kept w w' bad) (hb : ∀ i, bad i → bad' i) : Kept w w' bad' := ⟨h.os, h.tape, h.output, h.size, fun i hi hn => h.block i hi (fun e => hn (hb i e))⟩
theorem kept_below {w w' : World} (h : Below w.heap.size w w') : Kept w w' (fun _ => False) := ⟨h.os, h.tape, h.output, h.size, fun i hi _ => h.block i hi⟩
/-- between the calls: the cutter, and what is left as the document says -/
structure PL (W : World) (S cc rc q : Nat) (wr : World) (A : Option Addr) (m k : Nat) (pend : List UInt8) (AR : Option Addr) (nR kR : Nat) : Prop where
  cut : ∃ h, CutB wr cc rc W.heap.size q A m k pend h S
  rest : Rd wr wr.heap.size AR nR (bv pend)
  apart : ∀ i, blk AR = some i → i < wr.heap.size ∧ i ≠ cc ∧ i ≠ rc ∧ blk A ≠ some i
  cap : nR ≤ kR
  few : pend.length < 256
  pure_ : cutF (rule q) [] pend = ([], pend)
  below : Below W.heap.size W wr
  lt : W.heap.size < cc ∧ W.heap.size < rc ∧ S = W.heap.size + 1 ∧ S ≤ wr.heap.size
set_option maxRecDepth 100000 in
theorem walk (p : Int) (A : Option Addr) (n c : Nat) (ds : List (Int × List UInt8)) (w : World) (hp : (Lit.int .u64 p).wf = true) (hd : Dos w w.heap.size A n ds) (hc : n ≤ c) (hn : n ≤ 9223372036854775807) :
    Calls Try.prog 4 #[.int .u64 p, .slice A n c] w fun e w' => e = .returned (.bool true) ∧ Below w.heap.size w w' := by
  replace hp := u64_nat hp
  obtain ⟨p, rfl, hp⟩ := hp
  have hq := good_log (tq_good p)
  have hT := fresh_tab (tq p) w
  have hb : Below w.heap.size w (w.alloc (.cells (freshT (tq p)) 75)) := (Below.refl _ w).alloc (Nat.le_refl _) _
  have hsz : (w.alloc (.cells (freshT (tq p)) 75)).heap.size = w.heap.size + 1 := by simp
  have HT := fun w => Lib.hid (table_any p w hp)
  obtain ⟨q, hqd⟩ : ∃ q, tq p = q := ⟨_, rfl⟩
  unfold TablePost at HT
  rw [hqd] at hq hT hb hsz HT
  clear hqd
  have HS := Lib.hid (And.intro hb hsz)
  clear hb hsz
  have HSH := Lib.hid (short_any A n c w.heap.size ds w hd hc hn)
  have HD := Lib.hid hd
  clear hd
  go_enter Try.func4, Try.ntmps4
  go_wp2_with fail
  refine HSH.out.mono ?_
  rintro e w0 ⟨rfl, b0, rfl, hs0⟩
  cases b0 with
  | false =>
    go_wp2_with (go_at_call 12; refine (awake_any _).mono ?_; rintro e w4 ⟨rfl, hb4⟩)
    go_ret
    exact ⟨rfl, hb4⟩
  | true =>
    obtain ⟨hn1, hlen⟩ := hs0 rfl
    have HLEN := Lib.hid hlen
    clear hlen hs0
    go_wp2_with fail
    refine (HT _).out.mono ?_
    rintro e w1 ⟨rfl, hw1⟩
    rw [← hw1] at hT HS
    clear hw1 HT
    have s1 := HS.out.2
    have hb1 := HS.out.1
    clear HS
    go_wp2_with fail
    refine (new_any w0.heap.size q w1 hq (Or.inl hT)).mono ?_
    rintro e w2 ⟨cc, rc, rfl, hcc, hrc, hC, hK2⟩
    have s2 := hK2.size
    have hb2 : Below w0.heap.size w0 w2 := hK2.below hb1 hb1.size (fun i hi e => by omega)
    have hP0 : PL w0 (w0.heap.size + 1) cc rc q w2 none 0 0 [] none 0 0 := ⟨⟨_, cut_base hC _⟩, Rd.nil _ _ _, (fun i hi => by cases hi), Nat.le_refl _, by decide, cut_nil _ _, hb2, by omega, by omega, rfl, by omega⟩
    have HP0 := Lib.hid hP0
    clear hP0 hC hT hK2
    go_wp2_with fail
    go_loopw [7, 9, 10, 11, 12, 13, 14, 28, 29, 30, 31, 32, 33, 34, 35, 36, 37, 38, 39, 40, 41, 42, 43, 44, 45, 46, 47, 48, 49, 50, 51, 52, 53, 54, 55, 56, 57, 58, 59, 60, 61, 62, 63, 64, 65, 66, 67, 68, 69, 70, 71, 72, 73, 74, 75, 76, 77, 78, 79, 80, 81, 82, 83, 84, 85, 86, 87, 88] (fun v7 _ _ _ _ _ _ v28 _ _ _ _ _ _ _ _ _ _ _ _ _ _ _ _ _ _ _ _ _ _ _ _ _ _ _ _ _ _ _ _ _ _ _ _ _ _ _ _ _ _ _ _ _ _ _ _ _ _ _ _ _ _ _ _ _ _ _ _ wr => ∃ (j : Nat) (A1 : Option Addr) (m k : Nat) (pend : List UInt8) (AR : Option Addr) (nR kR : Nat), v7 = .slice AR nR kR ∧ v28 = .int .i64 (j : Nat) ∧ j ≤ n ∧ Hid (PL w0 (w0.heap.size + 1) cc rc q wr A1 m k pend AR nR kR)) (fun _ _ _ _ _ _ _ v _ _ _ _ _ _ _ _ _ _ _ _ _ _ _ _ _ _ _ _ _ _ _ _ _ _ _ _ _ _ _ _ _ _ _ _ _ _ _ _ _ _ _ _ _ _ _ _ _ _ _ _ _ _ _ _ _ _ _ _ _ => n - (intOf v).toNat)
    case atStart => exact ⟨0, none, 0, 0, [], none, 0, 0, rfl, rfl, by omega, HP0⟩
    case round =>
      obtain ⟨j, A1, m, k, pend, AR, nR, kR, rfl, rfl, hj, HPL⟩ := hrel
      by_cases hlt : j < n
      · obtain ⟨b, off, op, Ai, mi, ki, l, rfl, hbl, h4, h5, h6, h7, h8, h9, h10⟩ := (HD.out.below HPL.out.below (Nat.le_refl _)).at_ hlt
        have hmi : mi ≤ 8192 := by have := HLEN.out (ds[j]) (List.getElem_mem _); rw [h10] at this; simp only at this; omega
        have hk1 : (j : Int) < (n : Int) := by omega
        rw [show off + 2 * j = off + j * 2 by omega] at h4 h5
        obtain ⟨U, hU⟩ : ∃ U : Nat, IntKind.u64.wrap op = (U : Int) := ⟨(IntKind.u64.wrap op).toNat, by rw [IntKind.wrap_u64]; omega⟩
        obtain ⟨N, hNU⟩ : ∃ N : Nat, U % 5 = N := ⟨_, rfl⟩
        have he : wrap64 ((IntKind.u64.wrap op).tmod 5) = (N : Int) := by
          have e1 : ((U : Int)).tmod ((5 : Nat) : Int) = (N : Int) := by rw [← hNU]; exact (Int.ofNat_tmod U 5).symm
          rw [hU, show (5 : Int) = ((5 : Nat) : Int) by omega, e1]
          unfold wrap64; omega
        clear hU
        have hal : Kept wr (wr.alloc (.cells #[.int .i64 op, .slice Ai mi ki] 42)) (fun _ => False) := Kept.weak (Kept.of (World.grownBy_alloc wr (.cells #[.int .i64 op, .slice Ai mi ki] 42) none)) (fun i e => by cases e)
        have hA := Lib.hid hal
        have HL := Lib.hid (And.intro h8 h7)
        clear hal h7 h8 h10 h9
        by_cases hz : N = 4
        · rw [hz] at he
          have he4 : wrap64 ((IntKind.u64.wrap op).tmod 5) = 4 := he
          clear he
          go_wp2_with fail
          obtain ⟨h', hC⟩ := HPL.out.cut
          obtain ⟨l1, l2, l3, l4⟩ := HPL.out.lt
          have ht1 := hA.out.tab hC.tab (fun e => e)
          have hC1 := cut_kept hC hA.out ht1 (fun e => e) (fun e => e) (fun i hi e => e)
          have hF := flush_any A1 m k _ _ hC1
          have K8 := Kept.set (wr.alloc (.cells #[.int .i64 op, .slice Ai mi ki] 42)) cc 1 (.slice none 0 0)
          have KK := (Kept.weak hA.out (fun i e => e.elim) : Kept wr _ (fun i => i = cc)).trans K8 (fun i hi e => e)
          have hC8 := K8.ow hC1.row (fun i hi e => hC1.rc (by rw [hi, e]))
          have hR8 := kept_rdB KK HPL.out.rest (Nat.le_refl _) (fun i hi _ e => (HPL.out.apart i hi).2.1 e)
          have hE := equal_any A1 AR m k nR kR _ pend pend _ hC8.rd (hR8.more KK.size)
          rw [decide_eq_true rfl] at hE
          have hCF := cut_flush hC1 (w0.heap.size + 1)
          have hP := pending_any none 0 0 _ _ hCF
          have hsz8 := KK.size
          have hPL2 : PL w0 (w0.heap.size + 1) cc rc q _ none 0 0 [] none 0 0 := ⟨⟨_, hCF⟩, Rd.nil _ _ _, (fun i hi => by cases hi), Nat.le_refl _, by decide, cut_nil _ _, KK.below HPL.out.below HPL.out.below.size (fun i hi e => by omega), l1, l2, rfl, Nat.le_trans l4 hsz8⟩
          have HF := Lib.hid hF
          have HE := Lib.hid (And.intro hE (And.intro hP hPL2))
          clear hF K8 KK hC8 hR8 hE hP hPL2 hCF hC1 ht1 hC hsz8
          refine HF.out.mono ?_
          rintro e w8 ⟨rfl, hw8⟩
          rw [← hw8] at HE
          clear hw8 HF
          go_wp2_with (first
            | (go_at_call 19; refine HE.out.1.mono ?_; rintro e w' ⟨rfl, rfl⟩)
            | (go_at_call 23; refine HE.out.2.1.mono ?_; rintro e w' ⟨rfl, rfl⟩))
          have HPL2 := Lib.hid HE.out.2.2
          clear HE
          go_roundw
          case rel => exact ⟨j + 1, none, 0, 0, [], none, 0, 0, rfl, by go_num, by omega, HPL2⟩
          case measure => simp only [intOf]; omega
        · have hz2 : ¬ (N : Int) = 4 := by omega
          have hz3 : ((N : Int) == 4) = false := by rw [beq_eq_false_iff_ne]; exact hz2
          go_wp2_with fail
          obtain ⟨h', hC⟩ := HPL.out.cut
          obtain ⟨l1, l2, l3, l4⟩ := HPL.out.lt
          have lcc := cell_lt hC.c0
          have lrc := hC.rol.lt
          have hb3 := HPL.out.below
          have hsa : (wr.alloc (.cells #[.int .i64 op, .slice Ai mi ki] 42)).heap.size = wr.heap.size + 1 := by simp
          have hc91 : (wr.alloc (.cells #[.int .i64 op, .slice Ai mi ki] 42)).cell? ⟨wr.heap.size, 1, none⟩ = some (.slice Ai mi ki) := by go_simp
          have hri := kept_rdB hA.out HL.out.2 hb3.size (fun _ _ _ e => e)
          refine (clone_any Ai mi ki w0.heap.size l _ hri (by rw [hsa]; have := hb3.size; omega) (by omega)).mono ?_
          rintro e w3 ⟨A3, n3, c3, rfl, ho3, hb13⟩
          obtain rfl : n3 = mi := by have h1 := ho3.len; rw [bv_len] at h1; have := HL.out.1; omega
          rw [hsa] at ho3
          have hk13 := kept_below hb13
          have hs13 := hb13.size
          rw [hsa] at hs13
          have K13 : Kept wr w3 (fun _ => False) := hA.out.trans hk13 (fun i _ e => e)
          have hc93 := (hk13.cell (a := ⟨wr.heap.size, 1, none⟩) (by show wr.heap.size < _; rw [hsa]; omega) (fun e => e)).trans hc91
          have h3b := ho3.blk_lt
          have hA1 := hC.row.blk_lt
          have ht3 := K13.tab hC.tab (fun e => e)
          have hC3 := cut_kept hC K13 ht3 (fun e => e) (fun e => e) (fun i hi e => e)
          have hR3 := kept_rdB K13 HPL.out.rest (Nat.le_refl _) (fun _ _ _ e => e)
          have hd3 := kept_rdB K13 HL.out.2 hb3.size (fun _ _ _ e => e)
          have hb03 := K13.below hb3 hb3.size (fun _ _ e => e)
          have hW := Lib.hid (write_any (hist := h') A1 m k (w0.heap.size + 1) A3 n3 c3 w3.heap.size l w3 hq hC3 HPL.out.few (by omega) (fun w' hk => kept_rdB hk ho3.rd (Nat.le_refl _) (fun i hi _ e => by
            have h1 := (h3b i hi).1
            rcases e with e | e | e
            · omega
            · omega
            · have := (hA1 i e).2; omega)) (by omega))
          clear hC3 ht3 hk13 hb13 hc91 hri
          go_wp2_with fail
          refine hW.out.mono ?_
          rintro e w4 ⟨A4, n4, k4, vs4, A5, m5, k5, rfl, hI⟩
          have ho4 := hI.kept.ow ho3 (fun i hi e => by
            have h1 := (h3b i hi).1
            rcases e with e | e | e
            · omega
            · omega
            · have := (hA1 i e).2; omega)
          have s34 := hI.kept.size
          have hc94 := (hI.kept.cell (a := ⟨wr.heap.size, 1, none⟩) (show wr.heap.size < w3.heap.size by omega) (fun e => by
            simp only at e
            rcases e with e | e | e
            · omega
            · omega
            · have := (hA1 _ e).2; omega)).trans hc93
          have hR4 := kept_rdB hI.kept hR3 (by omega) (fun i hi _ e => by
            have h1 := HPL.out.apart i hi
            rcases e with e | e | e
            · exact h1.2.1 e
            · exact h1.2.2.1 e
            · exact h1.2.2.2 e)
          have hd4 := kept_rdB hI.kept hd3 hb03.size (fun i _ hi e => by
            rcases e with e | e | e
            · omega
            · omega
            · have := (hA1 i e).1; omega)
          have hb04 := hI.kept.below hb03 hb03.size (fun i hi e => by
            rcases e with e | e | e
            · omega
            · omega
            · have := (hA1 i e).1; omega)
          have HI := Lib.hid hI
          have HX := Lib.hid (And.intro hc94 (And.intro hR4 (And.intro hd4 (And.intro hb04 (And.intro h3b hA1)))))
          have HO := Lib.hid ho4
          clear hI hc94 hR4 hd4 hb04 h3b hA1 ho4 hW hc93 hR3 hd3 hb03 K13 ho3 hC
          obtain ⟨wo, hwo⟩ : ∃ wo, wo = wr := ⟨_, rfl⟩
          subst hwo
          go_wp2_with fail
          go_loopw [12, 56, 57, 58, 59, 60, 61, 62, 63, 64, 65] (fun _ v56 _ _ _ _ _ _ _ _ _ wq => ∃ (i : Nat) (x : List UInt8), v56 = .int .i64 (i : Nat) ∧ i ≤ n3 ∧ Hid (Ow wq (wo.heap.size + 1) 5 A3 n3 c3 (bv x)) ∧ Hid (Kept w4 wq (fun a => blk A3 = some a))) (fun _ v _ _ _ _ _ _ _ _ _ _ => n3 - (intOf v).toNat)
          case atStart => exact ⟨0, l, rfl, by omega, HO, Lib.hid (Kept.refl _ _)⟩
          case round =>
            obtain ⟨i, x, rfl, hi, HOX, HK⟩ := hrel
            by_cases hlt2 : i < n3
            · obtain ⟨g, rfl, hg1, hg2⟩ := HOX.out.at0 (by omega)
              have hxl : i < x.length := by have h1 := HOX.out.len; rw [bv_len] at h1; omega
              have hst := HOX.out.set i (.int .u8 ((x[i] ^^^ 255).toNat : Nat)) hlt2
              have hcell := hst.2.2.1
              have hfr := hst.2.2.2
              have hnew := hst.1
              rw [← bv_set] at hnew
              rw [bv_at x i hxl] at hcell
              have hkk := HK.out.trans (Kept.set _ g i (.int .u8 ((x[i] ^^^ 255).toNat : Nat))) (fun a _ e => by rw [e]; rfl)
              have HPK := Lib.hid (And.intro hnew hkk)
              obtain ⟨y, hy⟩ : ∃ y, y = x[i] := ⟨_, rfl⟩
              rw [← hy] at hcell HPK
              have hxor := xor_ff y
              have hi6 : (i : Int) < (n3 : Int) := by omega
              obtain ⟨x', hx'⟩ : ∃ x', x' = x.set i (y ^^^ 255) := ⟨_, rfl⟩
              rw [← hx'] at HPK
              obtain ⟨yv, hyv⟩ : ∃ v : Nat, v = (y ^^^ 255).toNat := ⟨_, rfl⟩
              obtain ⟨yw, hyw⟩ : ∃ v : Nat, v = y.toNat := ⟨_, rfl⟩
              rw [← hyv] at HPK hxor
              rw [← hyw] at hxor hcell
              clear hst hnew hkk hy hyv hyw hx'
              go_wp2_with fail
              go_roundw
              case rel => exact ⟨i + 1, x', by go_num, by omega, Lib.hid HPK.out.1, Lib.hid HPK.out.2⟩
              case measure => simp only [intOf]; omega
            · have hi6 : ¬ (i : Int) < (n3 : Int) := by omega
              have hq94 := (HK.out.cell (a := ⟨wo.heap.size, 1, none⟩) (show wo.heap.size < w4.heap.size by omega) (fun e => by have := (HX.out.2.2.2.2.1 _ e).1; simp only at this; omega)).trans HX.out.1
              have sq := HK.out.size
              have hRq := kept_rdB HK.out HX.out.2.1 (by omega) (fun a ha hlt e => by have := (HX.out.2.2.2.2.1 _ e).1; omega)
              have hlo := HPL.out.below.size
              have hdq := kept_rdB HK.out HX.out.2.2.1 (by omega) (fun a ha hlt e => by have := (HX.out.2.2.2.2.1 _ e).1; omega)
              go_wp2_with fail
              have hp2 := parts_two (hRq.more (show wo.heap.size ≤ wr.heap.size by omega)) HPL.out.cap (hdq.more (show w0.heap.size ≤ wr.heap.size by omega)) h6 (Nat.le_refl _) 23
              have hpl := HPL.out.few
              have hll := HL.out.1
              have hsq1 : (wr.alloc (.cells #[.slice AR nR kR, .slice Ai n3 ki] 23)).heap.size = wr.heap.size + 1 := by simp
              have hcon := Lib.hid (concat_any _ 2 2 _ _ _ hp2 (by rw [hsq1]; exact Nat.le_refl _) (by omega) (by simp [tot]; omega))
              clear hp2 hq94 hRq hdq
              refine hcon.out.mono ?_
              rintro e w6 ⟨AX, nX, cX, rfl, hoX, hb6⟩
              have K16 : Kept wr w6 (fun _ => False) := (Kept.weak (Kept.of (World.grownBy_alloc wr (.cells #[.slice AR nR kR, .slice Ai n3 ki] 23) none)) (fun i e => by cases e)).trans (kept_below hb6) (fun i _ e => e)
              rw [show [pend, l].flatten = pend ++ l by simp] at hoX
              rw [hsq1] at hoX
              have hnX : nX ≤ 16384 := by have h1 := hoX.len; rw [bv_len, List.length_append] at h1; omega
              have hcut := Lib.hid (rcut2_any w6.heap.size nX cX AX (pend ++ l) w6 hq hoX.rd (Nat.le_refl _) hoX.cap.1 (by omega))
              have hXb := hoX.blk_lt
              clear hoX hcon hb6 hsq1
              go_wp2_with fail
              refine hcut.out.mono ?_
              rintro e w7 ⟨AO, nO, kO, vsO, AR2, m2, kR2, rfl, hrO, hvO, hrR, hmk, hbk, hb67⟩
              rw [cut_from _ _ _ HPL.out.pure_] at hvO hrR
              have K17 := K16.trans (kept_below hb67) (fun i _ e => e)
              have s7 := K17.size
              have s67 := hb67.size
              obtain ⟨h5', hC5⟩ := HI.out.cut
              have K47 := HK.out.trans K17 (fun i _ e => e.elim)
              have hA5 := hC5.row.blk_lt
              have n3b := HX.out.2.2.2.2.1
              have hA1 := HX.out.2.2.2.2.2
              have hx5 : ∀ i, blk A5 = some i → ¬ blk A3 = some i := fun i hi e => by
                have h1 := n3b i e
                have h2 := hA1 i (HI.out.pa i h1.2 hi)
                omega
              have ht7 := K47.tab hC5.tab (fun e => by have := (n3b _ e).1; omega)
              have hC7 := cut_kept hC5 K47 ht7 (fun e => by have := (n3b _ e).1; omega) (fun e => by have := (n3b _ e).1; omega) hx5
              have hr7 := HI.out.rows.kept K47 (fun B n k hm i hi e => by
                have h1 := n3b i e
                have h2 := hA1 i (HI.out.fr B n k hm i hi h1.2)
                omega)
              have hw7 := K47.ow HI.out.row (fun i hi e => by
                have h1 := n3b i e
                have h2 := (HI.out.row.blk_lt i hi).1
                omega)
              have P1 := rows_parts hr7 hw7.rd (Nat.le_refl _)
              have P2 := hvO.parts hrO.rd s67
              have hcc := cut_count (rule q) l pend
              have hl1 := P1.len
              have hl2 := P2.len
              have hS := sameL_any A4 AO n4 nO k4 kO _ _ _ _ w7 P1 P2 (by omega) (by omega)
              rw [decide_eq_true rfl] at hS
              have hP := pending_any A5 m5 k5 _ w7 hC7
              have hm5 : m5 = m2 := by have h1 := hC7.row.len; have h2 := hrR.len; rw [bv_len] at h1 h2; omega
              have hb47 := K17.below (HK.out.below HX.out.2.2.2.1 HX.out.2.2.2.1.size (fun i hi e => by have := (n3b _ e).1; omega)) (by omega) (fun i hi e => e)
              have hPL2 : PL w0 (w0.heap.size + 1) cc rc q w7 A5 m5 k5 (cutF (rule q) pend l).2 AR2 m2 kR2 := ⟨⟨_, hC7⟩, hrR.more s67, fun i hi => by
                have h1 := hXb i (by rw [← hbk]; exact hi)
                exact ⟨by omega, by omega, by omega, fun e => by have := (hA5 i e).2; omega⟩, hmk, (cut_sizes (rule_ok q) l pend hpl).2, cut_pend _ _ _ HPL.out.pure_, hb47, l1, l2, rfl, by omega⟩
              have HS := Lib.hid hS
              have HP := Lib.hid hP
              have HP2 := Lib.hid hPL2
              subst hm5
              clear hPL2 hP hS hl1 hl2 hcc P1 P2 hw7 hr7 hC7 ht7 hx5 hA1 n3b hA5 K47 hC5 K17 K16 hrR hvO hrO hbk hXb hcut hb67 hb47
              go_wp2_with (first
                | (go_at_call 18; refine HS.out.mono ?_; rintro e w' ⟨rfl, rfl⟩)
                | (go_at_call 23; refine HP.out.mono ?_; rintro e w' ⟨rfl, rfl⟩))
              go_roundw
              case rel => exact ⟨j + 1, A5, _, k5, _, AR2, _, kR2, rfl, by go_num, by omega, HP2⟩
              case measure => simp only [intOf]; omega
      · have hk1 : ¬ (j : Int) < (n : Int) := by omega
        obtain ⟨h', hC⟩ := HPL.out.cut
        have hF := flush_any A1 m k _ wr hC
        have K8 := Kept.set wr cc 1 (.slice none 0 0)
        have hC8 := K8.ow hC.row (fun i hi e => hC.rc (by rw [hi, e]))
        have hR8 := kept_rdB K8 HPL.out.rest (Nat.le_refl _) (fun i hi _ e => (HPL.out.apart i hi).2.1 e)
        have hE := equal_any A1 AR m k nR kR _ pend pend _ hC8.rd (hR8.more (by rw [World.size_setCell]; exact Nat.le_refl _))
        rw [decide_eq_true rfl] at hE
        have hlt2 := HPL.out.lt.1
        have hb8 : Below w0.heap.size w0 (wr.setCell ⟨cc, 1, none⟩ (.slice none 0 0)) := K8.below HPL.out.below HPL.out.below.size (fun i hi e => by omega)
        have HF := Lib.hid hF
        have HE := Lib.hid (And.intro hE hb8)
        clear hF K8 hC8 hR8 hE hb8 hC
        go_wp2_with fail
        refine HF.out.mono ?_
        rintro e w8 ⟨rfl, hw8⟩
        rw [← hw8] at HE
        clear hw8 HF
        have hb8 := HE.out.2
        go_wp2_with (first
          | (go_at_call 19; refine HE.out.1.mono ?_; rintro e w' ⟨rfl, rfl⟩)
          | (go_at_call 12; refine (awake_any _).mono ?_; rintro e w9 ⟨rfl, hb9⟩))
        go_ret
        exact ⟨rfl, hb8.trans (hb9.mono hb8.size)⟩
end Go.Proofs.Ytjmgokjflfhohaa.chunkPlaysDone
namespace Go.Proofs.Ytjmgokjflfhohaa.chunkPlaysDone
open Go.ChangeShapes Go.WideShapes Go.ChangeAt Go.RowKit Mem rb ch
set_option linter.unusedVariables false
theorem own : ownKnob Try.prog.godebug = none := by kernel_rfl
theorem laidOut : laidOutB Try.prog = true := by kernel_rfl
set_option maxRecDepth 100000 in
theorem lifted (os : Os) (started : os.Started) (H : Type) (enc : TypeId × Value → H) :
    ReturnsInHanded {} Try.checked os 4 .any (Rows.chunkPlaysSpec.pre6 enc Try.prog Try.f4 Rows.chunkPlaysRow.domain false) (Rows.chunkPlaysSpec.post enc Try.prog Try.f4 false true false false) := by
  refine returnsInHanded_of_change (C := Try.checked) own started (by kernel_rfl) Try.func4
    (ChangeSpec.witness6 (enc := enc) (C := Try.checked) false ⟨#[], #[.int .u64 0, .slice none 0 0], []⟩ 8 (by kernel_rfl) (by kernel_rfl) (by kernel_rfl) (by kernel_rfl)) ?_
  intro W base args ds gs before hval0 hW hcnd _
  have hval : ∀ (j : Nat) t v, Try.f4.params[j]? = some t → args[j]? = some v → Value.okWide Try.prog W .any base t v := hval0
  have hW' := hW
  obtain ⟨p, q, hA0, hV, rfl, hfz, hnd⟩ := hW
  have hA : DataW.TrodAll enc Try.prog W 0 (fun _ => true) true Try.f4.params.toList args.toList ds p := hA0
  rw [Try.params4] at hA hval
  obtain ⟨v0, vs0, d0, ds0, p0, q0, hargs, rfl, rfl, h0, r0⟩ := trodAll_cons hA
  obtain ⟨v1, vs1, d1, ds1, p1, q1, rfl, rfl, rfl, h1, r1⟩ := trodAll_cons r0
  obtain ⟨rfl, rfl, rfl⟩ := trodAll_nil r1
  obtain rfl : args = #[v0, v1] := by cases args; simp_all
  obtain ⟨rfl, rfl⟩ := trodVars_none hV
  obtain ⟨a0, rfl, rfl, rfl, w0⟩ := open_int Try.underlying22 (hval 0 22 v0 rfl rfl) h0
  obtain ⟨a1, n1, c1, rfl⟩ := okWide_slice Try.underlying37 (hval 1 37 v1 rfl rfl)
  have k1 := h1
  have lt1 : ∀ x ∈ p1, x.block < W.heap.size := by obtain ⟨m, hm⟩ := k1; exact DataW.trod_lt m _ _ _ hm
  obtain ⟨l1, w1, m1, b1⟩ : ∃ l : List (Int × List UInt8), Dos W W.heap.size a1 n1 l ∧ n1 ≤ c1 ∧ n1 ≤ 9223372036854775807 := by
    obtain ⟨fuel, hf⟩ := h1
    exact open_dos hf
  clear hA0 hval0
  refine (walk a0 a1 n1 c1 l1 W w0 w1 m1 b1).mono fun e W' ⟨he, bel⟩ => ?_
  subst he
  exact ⟨_, rfl, _, _, _, [], _, [], hW', trodAll_mk1 (shut_bool Try.underlying4 _), (trodAll_cons_mk (shut_int Try.underlying22 w0) (trodAll_cons_mk (Below.trod laidOut (by kernel_rfl) (of_decide_eq_true (by kernel_rfl)) k1 bel lt1) trodAll_mk0)), rfl, bel.frame _, fun h => by cases h⟩

theorem over : Rows.chunkPlaysRow.holds Try.pinned (OpenSpec.ofChange Rows.chunkPlaysSpec) :=
  OpenClaim.holds_of_wide 4 Try.f4 rfl rfl rfl rfl rfl rfl rfl ⟨rfl, rfl, rfl, rfl, rfl⟩ rfl rfl rfl rfl rfl (by kernel_rfl) Try.func4 (by kernel_rfl)
    (of_decide_eq_true (by kernel_rfl)) (by unfold Func.isWrapper; first | (rw [if_pos (by decide +kernel)]; kernel_rfl) | (rw [if_neg (by decide +kernel)]; exact ⟨rfl, rfl⟩))
    (fun os started H enc _ => lifted os started H enc)
/-- the given statement -/
theorem proved : Rows.ChunkPlaysSaid := over
#print axioms proved
end Go.Proofs.Ytjmgokjflfhohaa.chunkPlaysDone
