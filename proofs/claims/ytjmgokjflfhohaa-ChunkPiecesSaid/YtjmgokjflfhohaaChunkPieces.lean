/- ChunkPieces: for every input the law answers true and leaves its arguments as they were. -/
import Derived.Test.YtjmgokjflfhohaaRows
import Derived.Test.YtjmgokjflfhohaaChE
import Derived.ProofKit
import Derived.OpenShut
import Derived.ShutString
import Derived.ChangeOld
namespace Go.Proofs.Ytjmgokjflfhohaa.chunkPiecesDone
open Go.RowKit Mem rb ch
set_option linter.unusedVariables false
theorem kept_rdB {w w' : World} {bad : Nat → Prop} {B n : Nat} {A : Option Addr} {xs : List Value} (h : Kept w w' bad) (hr : Rd w B A n xs) (hB : B ≤ w.heap.size) (hb : ∀ i, i < B → ¬ bad i) : Rd w' B A n xs := by
  refine ⟨hr.len, fun hn => ?_⟩
  obtain ⟨c, off, rfl, hc, hcell⟩ := hr.addr hn
  have hnc := hb c hc
  refine ⟨c, off, rfl, hc, fun k hk => ?_⟩
  rw [h.cell (a := ⟨c, off + k, none⟩) (show c < w.heap.size by omega) hnc]
  exact hcell k hk
theorem rd_if {w : World} {B n c N : Nat} {A : Option Addr} {xs : List Value} (h : Rd w B A n xs) (hN : N ≤ n) (hc : n ≤ c) : Rd w B (if c = N then A else Option.map (fun x => x.add N) A) (n - N) (xs.drop N) := by
  have hl := h.len
  by_cases e : c = N
  · have hz : n - N = 0 := by omega
    refine ⟨by rw [List.length_drop]; omega, fun hp => by omega⟩
  · rw [if_neg e]
    have hh := h.cut (l := N) (m := n - N) (by omega) (A' := Option.map (fun x => x.add N) A) (fun _ => rfl)
    rw [List.take_of_length_le (by rw [List.length_drop]; omega)] at hh
    exact hh
theorem rows_take {w : World} {base : Nat} {vs : List Value} {xs : List (List UInt8)} (h : ch.Rows w base vs xs) : ∀ k, ch.Rows w base (vs.take k) (xs.take k) := by
  induction h with
  | nil => intro k; simp; exact .nil
  | cons h1 _ ih =>
    intro k
    cases k with
    | zero => exact .nil
    | succ k => exact .cons h1 (ih k)
theorem rows_drop {w : World} {base : Nat} {vs : List Value} {xs : List (List UInt8)} (h : ch.Rows w base vs xs) : ∀ k, ch.Rows w base (vs.drop k) (xs.drop k) := by
  induction h with
  | nil => intro k; simp; exact .nil
  | cons h1 h2 ih =>
    intro k
    cases k with
    | zero => exact .cons h1 h2
    | succ k => exact ih k
theorem rows_parts {w : World} {B base n : Nat} {A : Option Addr} {vs : List Value} {ls : List (List UInt8)} (h : ch.Rows w base vs ls) (hr : Rd w B A n vs) (hB : w.heap.size ≤ B) : Parts w B A n ls := by
  refine ⟨by have h1 := hr.len; have h2 := h.len; omega, vs, hr, fun i hi => ?_⟩
  obtain ⟨Ai, ni, ki, e1, e2⟩ := h.at_ i hi
  have hl := e2.len
  rw [bv_len] at hl
  subst hl
  exact ⟨Ai, ki, e1, e2.cap.1, e2.rd.more hB⟩
theorem cut_kept {w w' : World} {bad : Nat → Prop} {c r b p n k base : Nat} {A : Option Addr} {pend hist : List UInt8} (h : CutB w c r b p A n k pend hist base) (hk : Kept w w' bad) (ht : TabB w' b p 1 0 (AV p) (FV p)) (h1 : ¬ bad c) (h2 : ¬ bad r) (h3 : ∀ i, blk A = some i → ¬ bad i) : CutB w' c r b p A n k pend hist base := by
  have hl := cell_lt h.c0
  exact ⟨by rw [hk.cell (a := ⟨c, 0, none⟩) hl h1]; exact h.c0, by rw [hk.cell (a := ⟨c, 1, none⟩) hl h1]; exact h.c1, fun o => by rw [hk.frozen (a := ⟨c, o, none⟩) hl h1]; exact h.fz o, hk.ow h.row h3, hk.rol h.rol h2, ht, h.cr, h.cb, h.rb, h.rc, h.rr, h.rt⟩
theorem cut_flush {w : World} {c r b p n k base : Nat} {A : Option Addr} {pend hist : List UInt8} (h : CutB w c r b p A n k pend hist base) (base' : Nat) : CutB (w.setCell ⟨c, 1, none⟩ (.slice none 0 0)) c r b p none 0 0 [] (hist ++ pend) base' := by
  have hl := cell_lt h.c0
  have K := Kept.set w c 1 (.slice none 0 0)
  refine ⟨by rw [World.cell?_setCell_other _ _ _ _ (ne_off (by omega))]; exact h.c0, World.cell?_setCell_same _ _ _ h.c1, fun o => by rw [frozen_set]; exact h.fz o, Ow.nil _ _ _, ?_, K.tab h.tab (fun e => h.cb e.symm), h.cr, h.cb, h.rb, by simp [blk], by simp [blk], by simp [blk]⟩
  rw [List.append_nil]
  exact K.rol h.rol (fun e => h.cr e.symm)
theorem cut_base {w : World} {c r b p base : Nat} {pend hist : List UInt8} (h : CutB w c r b p none 0 0 pend hist base) (base' : Nat) : CutB w c r b p none 0 0 [] (hist ++ pend) base' := by
  refine ⟨h.c0, h.c1, h.fz, Ow.nil _ _ _, by rw [List.append_nil]; exact h.rol, h.tab, h.cr, h.cb, h.rb, by simp [blk], by simp [blk], by simp [blk]⟩
theorem rows_app {w : World} {base : Nat} {vs us : List Value} {xs ys : List (List UInt8)} (h : ch.Rows w base vs xs) (k : ch.Rows w base us ys) : ch.Rows w base (vs ++ us) (xs ++ ys) := by
  induction h with
  | nil => exact k
  | cons h1 _ ih => exact .cons h1 ih
theorem take_more (l : List UInt8) (a n : Nat) : l.take (a + n) = l.take a ++ (l.drop a).take n := by rw [List.take_add]
/-- in the midst of the pieces: the second cutter, and what it has cut -/
structure PInv (S cd rd b q : Nat) (l : List UInt8) (w0 wr : World) (pos : Nat) (Ad : Option Addr) (md kd : Nat) (AG : Option Addr) (nG kG : Nat) (vsG : List Value) : Prop where
  cut : ∃ h', CutB wr cd rd b q Ad md kd (cutF (rule q) [] (l.take pos)).2 h' S
  row : Ow wr S 23 AG nG kG vsG
  rows : ch.Rows wr S vsG (cutF (rule q) [] (l.take pos)).1
  off : Off (fun i => blk Ad = some i ∨ blk AG = some i) vsG
  oa : ∀ i, blk AG = some i → blk Ad ≠ some i
  kept : Kept w0 wr (fun i => i = cd ∨ i = rd)
  lt : cd < S ∧ rd < S ∧ b < S ∧ S = w0.heap.size
theorem pinv_step {S cd rd b q : Nat} {l : List UInt8} {w0 wr w1 w2 : World} {pos N : Nat} {Ad : Option Addr} {md kd : Nat} {AG : Option Addr} {nG kG : Nat} {vsG : List Value}
    (h : PInv S cd rd b q l w0 wr pos Ad md kd AG nG kG vsG) {A : Option Addr} {n k : Nat} {vs : List Value} {A' : Option Addr} {m k' : Nat}
    (hI : InvW cd rd b q S Ad (cutF (rule q) [] (l.take pos)).2 ((l.drop pos).take N) wr w1 A n k vs A' m k')
    {AG2 : Option Addr} {nG2 kG2 : Nat} (ho : Ow w2 S 23 AG2 nG2 kG2 (vsG ++ vs)) (hk : Kept w1 w2 (fun i => blk AG = some i)) (hA : blk AG2 = blk AG ∨ ∃ i, w1.heap.size ≤ i ∧ blk AG2 = some i) :
    PInv S cd rd b q l w0 w2 (pos + N) A' m k' AG2 nG2 kG2 (vsG ++ vs) := by
  obtain ⟨l1, l2, l3, l4⟩ := h.lt
  have sz := h.kept.size
  have sz1 := hI.kept.size
  obtain ⟨h', hc⟩ := hI.cut
  have hcut : cutF (rule q) [] (l.take (pos + N)) = ((cutF (rule q) [] (l.take pos)).1 ++ (cutF (rule q) (cutF (rule q) [] (l.take pos)).2 ((l.drop pos).take N)).1, (cutF (rule q) (cutF (rule q) [] (l.take pos)).2 ((l.drop pos).take N)).2) := by rw [take_more, cut_app]
  have hgl : ∀ i, blk AG = some i → S ≤ i ∧ i < wr.heap.size := fun i hi => h.row.blk_lt i hi
  have hrl := h.rows.lt
  have hol := hI.row.blk_lt
  have hc0 : ∀ i, blk Ad = some i → S ≤ i ∧ i < wr.heap.size := by
    obtain ⟨h0, hcc⟩ := h.cut
    exact fun i hi => hcc.row.blk_lt i hi
  have r1 := h.rows.kept hI.kept (fun B n k hm i hi e => by
    have := hrl B n k hm i hi
    rcases e with e | e | e
    · omega
    · omega
    · exact h.off B n k hm i hi (Or.inl e))
  have r2 := r1.kept hk (fun B n k hm i hi e => h.off B n k hm i hi (Or.inr e))
  have hnl : ∀ B n k, Value.slice B n k ∈ vs → ∀ i, blk B = some i → ¬ blk AG = some i := by
    intro B n k hm i hi e
    have h1 := hgl i e
    exact h.oa i e (hI.fr B n k hm i hi h1.2)
  have k2 := hI.rows.kept hk hnl
  have nc : ¬ blk AG = some cd := fun e => by have := (hgl cd e).1; omega
  have nr : ¬ blk AG = some rd := fun e => by have := (hgl rd e).1; omega
  have nb : ¬ blk AG = some b := fun e => by have := (hgl b e).1; omega
  have nA' : ∀ i, blk A' = some i → ¬ blk AG = some i := by
    intro i hi e
    have h1 := hgl i e
    exact h.oa i e (hI.pa i h1.2 hi)
  have tab2 := hk.tab hc.tab nb
  have hA'l : ∀ i, blk A' = some i → i < w1.heap.size := fun i hi => (hc.row.blk_lt i hi).2
  refine ⟨?_, ho, ?_, ?_, ?_, ?_, h.lt⟩
  · rw [hcut]; exact ⟨h', cut_kept hc hk tab2 nc nr nA'⟩
  · rw [hcut]; exact rows_app r2 k2
  · intro B n2 k3 hmem i hi hb
    rcases List.mem_append.1 hmem with hmem | hmem
    · have hlt := hrl B n2 k3 hmem i hi
      rcases hb with e | e
      · exact h.off B n2 k3 hmem i hi (Or.inl (hI.pa i hlt.2 e))
      · rcases hA with e2 | ⟨j, hj, e2⟩
        · exact h.off B n2 k3 hmem i hi (Or.inr (by rw [← e2]; exact e))
        · rw [e2] at e; injection e with h1; omega
    · rcases hb with e | e
      · exact hI.off B n2 k3 hmem i hi (Or.inr (Or.inr (Or.inr (Or.inl e))))
      · rcases hA with e2 | ⟨j, hj, e2⟩
        · exact hnl B n2 k3 hmem i hi (by rw [← e2]; exact e)
        · rw [e2] at e; injection e with h1
          have := (hI.rows.lt B n2 k3 hmem i hi).2
          omega
  · intro i hi e
    rcases hA with e2 | ⟨j, hj, e2⟩
    · exact nA' i e (by rw [← e2]; exact hi)
    · rw [e2] at hi; injection hi with h1
      have := hA'l i e
      omega
  · refine (h.kept.trans hI.kept (fun i hi e => ?_)).trans hk (fun i hi e => ?_)
    · rcases e with e | e | e
      · exact Or.inl e
      · exact Or.inr e
      · have := (hc0 i e).1; omega
    · have := (hgl i e).1; omega
set_option maxRecDepth 100000 in
theorem walk (p : Int) (A : Option Addr) (n c : Nat) (l : List UInt8) (A2 : Option Addr) (n2 c2 : Nat) (ts : List Int) (w : World) (hp : (Lit.int .u64 p).wf = true) (hr : Rd w w.heap.size A n (bv l)) (hc : n ≤ c) (hn : n ≤ 9223372036854775807) (hr2 : Rd w w.heap.size A2 n2 (iv ts)) (hc2 : n2 ≤ c2) (hn2 : n2 ≤ 9223372036854775807) (hx2 : ∀ x ∈ ts, -9223372036854775808 ≤ x ∧ x ≤ 9223372036854775807) :
    Calls Try.prog 6 #[.int .u64 p, .slice A n c, .slice A2 n2 c2] w fun e w' => e = .returned (.bool true) ∧ Below w.heap.size w w' := by
  replace hp := u64_nat hp
  obtain ⟨p, rfl, hp⟩ := hp
  by_cases hlong : 8192 < n ∨ 200 < n2
  · rcases hlong with h | h
    · have h1 : (8192 : Int) < (n : Int) := by omega
      go_enter Try.func6, Try.ntmps6
      go_wp2_with (go_at_call 12; refine (awake_any _).mono ?_; rintro e w4 ⟨rfl, hb4⟩)
      all_goals go_ret
      all_goals exact ⟨rfl, hb4⟩
    · have h2 : (200 : Int) < (n2 : Int) := by omega
      by_cases h1 : (8192 : Int) < (n : Int)
      all_goals
        go_enter Try.func6, Try.ntmps6
        go_wp2_with (go_at_call 12; refine (awake_any _).mono ?_; rintro e w4 ⟨rfl, hb4⟩)
        all_goals go_ret
        all_goals exact ⟨rfl, hb4⟩
  · have hq := good_log (tq_good p)
    have hT := fresh_tab (tq p) w
    have hb : Below w.heap.size w (w.alloc (.cells (freshT (tq p)) 75)) := (Below.refl _ w).alloc (Nat.le_refl _) _
    have hsz : (w.alloc (.cells (freshT (tq p)) 75)).heap.size = w.heap.size + 1 := by simp
    have HT := fun w => Lib.hid (table_any p w hp)
    obtain ⟨q, hqd⟩ : ∃ q, tq p = q := ⟨_, rfl⟩
    unfold TablePost at HT
    rw [hqd] at hq hT hb hsz HT
    clear hqd
    have HS := Lib.hid (And.intro hb hsz)
    clear hb hsz
    have M1 : ¬ 8192 < n := by omega
    have M2 : ¬ 200 < n2 := by omega
    clear hlong
    have HL := Lib.hid (And.intro (show l.length = n by rw [← bv_len, hr.len]) (show ts.length = n2 by rw [← iv_len, hr2.len]))
    go_enter Try.func6, Try.ntmps6
    go_wp2_with fail
    refine (HT w).out.mono ?_
    rintro e w1 ⟨rfl, hw1⟩
    rw [← hw1] at hT HS
    clear hw1 HT
    have s1 := HS.out.2
    have hb1 := HS.out.1
    clear HS
    go_wp2_with fail
    refine (new_any w.heap.size q w1 hq (Or.inl hT)).mono ?_
    rintro e w2 ⟨ca, ra, rfl, hca, hra, hC, hK2⟩
    have s2 := hK2.size
    have lca := cell_lt hC.c0
    have lra := hC.rol.lt
    have hb2 : Below w.heap.size w w2 := hK2.below hb1 hb1.size (fun i hi e => by omega)
    go_wp2_with fail
    refine (new_any w.heap.size q w2 hq (Or.inr hC.tab)).mono ?_
    rintro e w3 ⟨cd, rd, rfl, hcd, hrd, hD, hK3⟩
    have s3 := hK3.size
    have lcd := cell_lt hD.c0
    have lrd := hD.rol.lt
    have hb3 : Below w.heap.size w w3 := hK3.below hb2 hb2.size (fun i hi e => by omega)
    have hC3 := cut_base (cut_kept hC hK3 hD.tab (by omega) (by omega) (fun i hi => by cases hi)) w3.heap.size
    have HH := Lib.hid (And.intro hC3 hD)
    clear hC hC3 hD hT hK2 hK3
    go_wp2_with fail
    refine (write_any (hist := _) none 0 0 w3.heap.size A n c w.heap.size l w3 hq HH.out.1 (by decide) (Nat.le_refl _) (fun w' hk => kept_rdB hk (hr.below hb3 (Nat.le_refl _)) hb3.size (fun i hi e => by
      rcases e with e | e | e
      · omega
      · omega
      · cases e)) (by omega)).mono ?_
    rintro e w4 ⟨A5, n5, k5, vs5, A6, m6, k6, rfl, hI⟩
    obtain ⟨h4', hC4⟩ := hI.cut
    have hb4 : Below w.heap.size w w4 := hI.kept.below hb3 hb3.size (fun i hi e => by
      rcases e with e | e | e
      · omega
      · omega
      · cases e)
    have hD4 := cut_base (cut_kept HH.out.2 hI.kept hC4.tab (fun e => by
      rcases e with e | e | e
      · omega
      · omega
      · cases e) (fun e => by
      rcases e with e | e | e
      · omega
      · omega
      · cases e) (fun i hi => by cases hi)) w4.heap.size
    have s4 := hI.kept.size
    have hP0 : PInv w4.heap.size cd rd w.heap.size q l w4 w4 0 none 0 0 none 0 0 [] := by
      refine ⟨?_, Ow.nil _ _ _, ?_, fun B n k hm => (by cases hm), fun i hi => (by cases hi), Kept.refl _ _, by omega, by omega, by omega, rfl⟩
      · rw [List.take_zero, cut_nil]; exact ⟨_, hD4⟩
      · rw [List.take_zero, cut_nil]; exact .nil
    have HP0 := Lib.hid hP0
    have HC4 := Lib.hid (And.intro hC4 hI)
    have hr4 := hr.below hb4 (Nat.le_refl _)
    have HR4 : Hid (Rd w4 w.heap.size A n (bv (l.drop 0))) := Lib.hid (by rw [List.drop_zero]; exact hr4)
    clear hP0 hC4 hI hD4 HH hr4
    go_wp2_with fail
    go_loopw [12, 13, 15, 16, 41, 42, 43, 44, 45, 46, 47, 48, 49, 50, 51, 52, 53, 54, 55, 56, 57, 58, 59, 60, 61, 62, 63] (fun v12 v13 _ _ v41 _ _ _ _ _ _ _ _ _ _ _ _ _ _ _ _ _ _ _ _ _ _ wr => ∃ (j pos : Nat) (Ad : Option Addr) (md kd : Nat) (AG : Option Addr) (nG kG : Nat) (vsG : List Value) (AR : Option Addr) (nR kR : Nat), v12 = .slice AG nG kG ∧ v13 = .slice AR nR kR ∧ v41 = .int .i64 (j : Nat) ∧ j ≤ n2 ∧ nR ≤ kR ∧ pos + nR = n ∧ Below w.heap.size w wr ∧ Hid (PInv w4.heap.size cd rd w.heap.size q l w4 wr pos Ad md kd AG nG kG vsG) ∧ Hid (Rd wr w.heap.size AR nR (bv (l.drop pos)))) (fun _ _ _ _ v _ _ _ _ _ _ _ _ _ _ _ _ _ _ _ _ _ _ _ _ _ _ _ => n2 - (intOf v).toNat)
    case atStart => exact ⟨0, 0, none, 0, 0, none, 0, 0, [], A, n, c, rfl, rfl, rfl, by omega, hc, by omega, hb4, HP0, HR4⟩
    case round =>
      obtain ⟨j, pos, Ad, md, kd, AG, nG, kG, vsG, AR, nR, kR, rfl, rfl, rfl, hj, hRk, hpos, hbr, HPI, HRR⟩ := hrel
      by_cases hlt : j < n2
      · have hjl : j < ts.length := by have := HL.out.2; omega
        obtain ⟨b1, o1, rfl, hb1', hcell⟩ := (hr2.below hbr (Nat.le_refl _)).at_ hlt
        rw [iv_at ts j hjl] at hcell
        obtain ⟨x, hx⟩ : ∃ x, x = ts[j] := ⟨_, rfl⟩
        rw [← hx] at hcell
        clear hx
        have hk1 : (j : Int) < (n2 : Int) := by omega
        obtain ⟨U, hU⟩ : ∃ U : Nat, IntKind.u64.wrap x = (U : Int) := ⟨(IntKind.u64.wrap x).toNat, by rw [IntKind.wrap_u64]; omega⟩
        obtain ⟨N, hNU⟩ : ∃ N : Nat, U % (nR + 1) = N := ⟨_, rfl⟩
        have hNR : N ≤ nR := by rw [← hNU]; have := Nat.mod_lt U (show nR + 1 > 0 by omega); omega
        have he : wrap64 ((IntKind.u64.wrap x).tmod ((nR : Int) + 1)) = (N : Int) := by
          have e1 : ((U : Int)).tmod ((nR + 1 : Nat) : Int) = (N : Int) := by rw [← hNU]; exact (Int.ofNat_tmod U (nR + 1)).symm
          rw [hU, show (nR : Int) + 1 = ((nR + 1 : Nat) : Int) by omega, e1]
          unfold wrap64; omega
        clear hU hNU
        have hNk : (N : Int) ≤ (kR : Int) := by omega
        obtain ⟨hd', hcd'⟩ := HPI.out.cut
        obtain ⟨lt1, lt2, lt3, lt4⟩ := HPI.out.lt
        have szr := HPI.out.kept.size
        have szb := hb4.size
        have hpl := (cut_sizes (rule_ok q) (l.take pos) [] (by decide)).2
        have hAd : ∀ i, blk Ad = some i → w4.heap.size ≤ i := fun i hi => (hcd'.row.blk_lt i hi).1
        have HW := Lib.hid (write_any (hist := hd') Ad md kd w4.heap.size AR N kR w.heap.size ((l.drop pos).take N) wr hq hcd' hpl szr (fun w' hk => by
          have h1 := kept_rdB hk HRR.out hbr.size (fun i hi e => by
            rcases e with e | e | e
            · omega
            · omega
            · have := hAd i e; omega)
          have h2 := h1.cut (l := 0) (m := N) (by omega) (A' := AR) (fun _ => by cases AR <;> simp [Addr.add])
          rw [List.drop_zero, ← bv_take] at h2
          exact h2) (by omega))
        have hnG : nG ≤ 8192 := by
          have h1 := HPI.out.row.len
          have h2 := HPI.out.rows.len
          have h3 := cut_count (rule q) (l.take pos) []
          rw [List.length_take] at h3
          omega
        clear hcd' hpl
        go_wp2_with fail
        refine HW.out.mono ?_
        rintro e w5 ⟨A7, n7, k7, vs7, A8, m8, k8, rfl, hI⟩
        have hAG : ∀ i, blk AG = some i → w4.heap.size ≤ i := fun i hi => (HPI.out.row.blk_lt i hi).1
        have hrow5 : Ow w5 w4.heap.size 23 AG nG kG vsG := hI.kept.ow HPI.out.row (fun i hi e => by
          have := hAG i hi
          rcases e with e | e | e
          · omega
          · omega
          · exact HPI.out.oa i hi e)
        have hn7 : n7 ≤ 8192 := by
          have h1 := hI.row.len
          have h2 := hI.rows.len
          have h3 := cut_count (rule q) ((l.drop pos).take N) (cutF (rule q) [] (l.take pos)).2
          rw [List.length_take] at h3
          omega
        have s5 := hI.kept.size
        have hrd7 := hI.row.rd
        have hone := hI.rows.one
        have HI5 := Lib.hid hI
        have hb5 : Below w.heap.size w w5 := hI.kept.below hbr hbr.size (fun i hi e => by
          rcases e with e | e | e
          · omega
          · omega
          · have := hAd i e; omega)
        have HR5 : Hid (Rd w5 w.heap.size AR nR (bv (l.drop pos))) := Lib.hid (kept_rdB hI.kept HRR.out hbr.size (fun i hi e => by
          rcases e with e | e | e
          · omega
          · omega
          · have := hAd i e; omega))
        clear hI HW hAd
        go_wp2_with (at_builtin; refine wp_app sty rfl (.tmp 53) (.tmp 58) rfl rfl rfl hrow5 hrd7 hone (by omega) (by omega) (by omega) ?_; intro A9 n9 k9 w6 ho9 hN9 hb9 hg9; have hK9 := Kept.of hg9.1; have hA9 := hg9.2; clear hb9 hg9)
        have hPI2 := pinv_step HPI.out HI5.out ho9 hK9 hA9
        have hb6 : Below w.heap.size w w6 := hK9.below hb5 hb5.size (fun i hi e => by have := hAG i e; omega)
        have hR6 : Rd w6 w.heap.size (if kR = N then AR else Option.map (fun x => x.add N) AR) (nR - N) (bv (l.drop (pos + N))) := by
          have h1 := rd_if (kept_rdB hK9 HR5.out hb5.size (fun i hi e => by have := hAG i e; omega)) hNR hRk
          rwa [← bv_drop, List.drop_drop] at h1
        clear ho9 hK9 hA9 HI5 HR5 HPI HRR hrow5 hrd7 hone
        have HP2 := Lib.hid hPI2
        have HR2 := Lib.hid hR6
        clear hPI2 hR6
        obtain ⟨XR, hXR⟩ : ∃ X, (if kR = N then AR else Option.map (fun x => x.add N) AR) = X := ⟨_, rfl⟩
        rw [hXR] at HR2
        clear he hNk
        go_roundw
        case rel => exact ⟨j + 1, pos + N, A8, m8, k8, A9, n9, k9, _, XR, nR - N, kR - N, rfl, by first | rfl | (simp only [hXR]) | (rw [hXR]), by go_num, by omega, by omega, by omega, hb6, HP2, HR2⟩
        case measure => simp only [intOf]; omega
      · obtain ⟨hd', hcd'⟩ := HPI.out.cut
        obtain ⟨lt1, lt2, lt3, lt4⟩ := HPI.out.lt
        have szr := HPI.out.kept.size
        have szb := hb4.size
        have hpl := (cut_sizes (rule_ok q) (l.take pos) [] (by decide)).2
        have hAd : ∀ i, blk Ad = some i → w4.heap.size ≤ i := fun i hi => (hcd'.row.blk_lt i hi).1
        have HW := Lib.hid (write_any (hist := hd') Ad md kd w4.heap.size AR nR kR w.heap.size ((l.drop pos).take nR) wr hq hcd' hpl szr (fun w' hk => by
          have h1 := kept_rdB hk HRR.out hbr.size (fun i hi e => by
            rcases e with e | e | e
            · omega
            · omega
            · have := hAd i e; omega)
          rw [List.take_of_length_le (by rw [List.length_drop]; have := HL.out.1; omega)]
          exact h1) (by omega))
        have hnG : nG ≤ 8192 := by
          have h1 := HPI.out.row.len
          have h2 := HPI.out.rows.len
          have h3 := cut_count (rule q) (l.take pos) []
          rw [List.length_take] at h3
          omega
        clear hcd' hpl
        go_wp2_with fail
        refine HW.out.mono ?_
        rintro e w5 ⟨A7, n7, k7, vs7, A8, m8, k8, rfl, hI⟩
        have hAG : ∀ i, blk AG = some i → w4.heap.size ≤ i := fun i hi => (HPI.out.row.blk_lt i hi).1
        have hrow5 : Ow w5 w4.heap.size 23 AG nG kG vsG := hI.kept.ow HPI.out.row (fun i hi e => by
          have := hAG i hi
          rcases e with e | e | e
          · omega
          · omega
          · exact HPI.out.oa i hi e)
        have hn7 : n7 ≤ 8192 := by
          have h1 := hI.row.len
          have h2 := hI.rows.len
          have h3 := cut_count (rule q) ((l.drop pos).take nR) (cutF (rule q) [] (l.take pos)).2
          rw [List.length_take] at h3
          omega
        have s5 := hI.kept.size
        have hrd7 := hI.row.rd
        have hone := hI.rows.one
        have HI5 := Lib.hid hI
        have hb5 : Below w.heap.size w w5 := hI.kept.below hbr hbr.size (fun i hi e => by
          rcases e with e | e | e
          · omega
          · omega
          · have := hAd i e; omega)
        clear hI HW hAd
        go_wp2_with (at_builtin; refine wp_app sty rfl (.tmp 64) (.tmp 67) rfl rfl rfl hrow5 hrd7 hone (by omega) (by omega) (by omega) ?_; intro A9 n9 k9 w6 ho9 hN9 hb9 hg9; have hK9 := Kept.of hg9.1; have hA9 := hg9.2; clear hb9 hg9)
        have hPI2 := pinv_step HPI.out HI5.out ho9 hK9 hA9
        rw [show pos + nR = n from hpos] at hPI2
        have hb6 : Below w.heap.size w w6 := hK9.below hb5 hb5.size (fun i hi e => by have := hAG i e; omega)
        clear ho9 hK9 hA9 HI5 HPI HRR hrow5 hrd7 hone
        obtain ⟨hd2, hD6⟩ := hPI2.cut
        have hlall : l.take n = l := List.take_of_length_le (by have := HL.out.1; omega)
        have hrows := hPI2.rows
        rw [hlall] at hD6 hrows
        have hKK := hPI2.kept
        have hW6 := hKK.ow HC4.out.2.row (fun i hi e => by
          have := (HC4.out.2.row.blk_lt i hi).1
          omega)
        have hWl := HC4.out.2.rows.lt
        have hWr6 := HC4.out.2.rows.kept hKK (fun B n k hm i hi e => by
          have := (hWl B n k hm i hi).1
          omega)
        have hC6 := cut_kept HC4.out.1 hKK hD6.tab (by omega) (by omega) (fun i hi e => by
          have := (HC4.out.1.row.blk_lt i hi).1
          omega)
        have P1 := hrows.parts hPI2.row
        have P2 := hWr6.parts hW6
        have hcc := cut_count (rule q) l []
        have hl1 := P1.len
        have hl2 := P2.len
        have hS := sameL_any A9 A5 n9 n5 k9 k5 _ _ _ _ w6 P1 P2 (by have := HL.out.1; omega) (by have := HL.out.1; omega)
        rw [decide_eq_true rfl] at hS
        have hm6 : m6 = (cutF (rule q) [] l).2.length := by have := hC6.row.len; rw [bv_len] at this; exact this.symm
        have hm8 : m8 = (cutF (rule q) [] l).2.length := by have := hD6.row.len; rw [bv_len] at this; exact this.symm
        obtain rfl : m6 = m8 := by omega
        have hP1 := pending_any A6 m6 k6 _ w6 hC6
        have hP2 := pending_any A8 m6 k8 _ w6 hD6
        have hF1 := flush_any A6 m6 k6 _ w6 hC6
        have K7 := Kept.set w6 ca 1 (.slice none 0 0)
        have hC7 := K7.ow hC6.row (fun i hi e => hC6.rc (by rw [hi, e]))
        have hD7 := cut_kept hD6 K7 (K7.tab hD6.tab (fun e => by omega)) (by omega) (by omega) (fun i hi e => by
          have := (hD6.row.blk_lt i hi).1
          omega)
        have hb7 : Below w.heap.size w (w6.setCell ⟨ca, 1, none⟩ (.slice none 0 0)) := K7.below hb6 hb6.size (fun i hi e => by omega)
        have s7 : w.heap.size ≤ (w6.setCell ⟨ca, 1, none⟩ (.slice none 0 0)).heap.size := hb7.size
        have H7 := Lib.hid (And.intro hC7 (And.intro hD7 hb7))
        have HS := Lib.hid hS
        have HP1 := Lib.hid hP1
        have HP2 := Lib.hid hP2
        have HF1 := Lib.hid hF1
        clear hS hP1 hP2 hF1 K7 hC7 hD7 hb7 hm6 hm8 hC6 hD6 hWr6 hW6 hWl hKK hrows hPI2 hl1 hl2 hcc P1 P2 hlall HC4
        go_wp2_with (first
          | (go_at_call 18; refine HS.out.mono ?_; rintro e w' ⟨rfl, rfl⟩)
          | (go_at_call 23; with_reducible refine HP1.out.mono ?_; rintro e w' ⟨rfl, rfl⟩)
          | (go_at_call 23; with_reducible refine HP2.out.mono ?_; rintro e w' ⟨rfl, rfl⟩))
        refine HF1.out.mono ?_
        rintro e w7 ⟨rfl, hw7⟩
        rw [← hw7] at H7 s7
        clear hw7 HF1
        obtain ⟨hC7, hD7, hb7⟩ := H7.out
        have hF2 := flush_any A8 m6 k8 _ w7 hD7
        have K8 := Kept.set w7 cd 1 (.slice none 0 0)
        have hC8 := K8.ow hC7 (fun i hi e => by
          have h1 := (hC7.blk_lt i hi).1
          omega)
        have hD8 := K8.ow hD7.row (fun i hi e => hD7.rc (by rw [hi, e]))
        have hb8 : Below w.heap.size w (w7.setCell ⟨cd, 1, none⟩ (.slice none 0 0)) := K8.below hb7 hb7.size (fun i hi e => by omega)
        have hE := equal_any A6 A8 m6 k6 m6 k8 _ _ _ _ hC8.rd hD8.rd
        rw [decide_eq_true rfl] at hE
        have HF2 := Lib.hid hF2
        have HE := Lib.hid (And.intro hE hb8)
        clear hF2 K8 hC8 hD8 hb8 hE hC7 hD7 H7
        go_wp2_with fail
        refine HF2.out.mono ?_
        rintro e w8 ⟨rfl, hw8⟩
        rw [← hw8] at HE
        clear hw8 HF2
        have hb8 := HE.out.2
        go_wp2_with (first
          | (go_at_call 19; refine HE.out.1.mono ?_; rintro e w' ⟨rfl, rfl⟩)
          | (go_at_call 12; refine (awake_any _).mono ?_; rintro e w9 ⟨rfl, hb9⟩))
        go_ret
        exact ⟨rfl, hb8.trans (hb9.mono hb8.size)⟩
end Go.Proofs.Ytjmgokjflfhohaa.chunkPiecesDone
namespace Go.Proofs.Ytjmgokjflfhohaa.chunkPiecesDone
open Go.ChangeShapes Go.WideShapes Go.ChangeAt Go.RowKit Mem rb ch
set_option linter.unusedVariables false
theorem own : ownKnob Try.prog.godebug = none := by kernel_rfl
theorem laidOut : laidOutB Try.prog = true := by kernel_rfl
set_option maxRecDepth 100000 in
theorem lifted (os : Os) (started : os.Started) (H : Type) (enc : TypeId × Value → H) :
    ReturnsInHanded {} Try.checked os 6 .any (Rows.chunkPiecesSpec.pre6 enc Try.prog Try.f6 Rows.chunkPiecesRow.domain false) (Rows.chunkPiecesSpec.post enc Try.prog Try.f6 false true false false) := by
  refine returnsInHanded_of_change (C := Try.checked) own started (by kernel_rfl) Try.func6
    (ChangeSpec.witness6 (enc := enc) (C := Try.checked) false ⟨#[], #[.int .u64 0, .slice none 0 0, .slice none 0 0], []⟩ 8 (by kernel_rfl) (by kernel_rfl) (by kernel_rfl) (by kernel_rfl)) ?_
  intro W base args ds gs before hval0 hW hcnd _
  have hval : ∀ (j : Nat) t v, Try.f6.params[j]? = some t → args[j]? = some v → Value.okWide Try.prog W .any base t v := hval0
  have hW' := hW
  obtain ⟨p, q, hA0, hV, rfl, hfz, hnd⟩ := hW
  have hA : DataW.TrodAll enc Try.prog W 0 (fun _ => true) true Try.f6.params.toList args.toList ds p := hA0
  rw [Try.params6] at hA hval
  obtain ⟨v0, vs0, d0, ds0, p0, q0, hargs, rfl, rfl, h0, r0⟩ := trodAll_cons hA
  obtain ⟨v1, vs1, d1, ds1, p1, q1, rfl, rfl, rfl, h1, r1⟩ := trodAll_cons r0
  obtain ⟨v2, vs2, d2, ds2, p2, q2, rfl, rfl, rfl, h2, r2⟩ := trodAll_cons r1
  obtain ⟨rfl, rfl, rfl⟩ := trodAll_nil r2
  obtain rfl : args = #[v0, v1, v2] := by cases args; simp_all
  obtain ⟨rfl, rfl⟩ := trodVars_none hV
  obtain ⟨a0, rfl, rfl, rfl, w0⟩ := open_int Try.underlying22 (hval 0 22 v0 rfl rfl) h0
  obtain ⟨a1, n1, c1, rfl⟩ := okWide_slice Try.underlying23 (hval 1 23 v1 rfl rfl)
  have k1 := h1
  have lt1 : ∀ x ∈ p1, x.block < W.heap.size := by obtain ⟨m, hm⟩ := k1; exact DataW.trod_lt m _ _ _ hm
  obtain ⟨l1, w1, m1, b1⟩ : ∃ l : List UInt8, Rd W W.heap.size a1 n1 (bv l) ∧ n1 ≤ c1 ∧ n1 ≤ 9223372036854775807 := by
    obtain ⟨fuel, hf⟩ := h1
    rcases open_ints Try.underlying23 Try.underlying5 (by kernel_rfl) hf with ⟨hcs, _⟩ | ⟨x, l, c, zs, hcs, _, hl, hm, hz, _, hcell, hwz⟩
    · simp [Value.cells] at hcs
      obtain ⟨rfl, rfl, rfl⟩ := hcs
      exact ⟨[], Rd.nil _ _ _, Nat.le_refl _, by omega⟩
    · simp [Value.cells] at hcs
      obtain ⟨rfl, rfl, rfl⟩ := hcs
      unfold maxLen at hm
      obtain ⟨l, hl2⟩ := rd_bytes hl (by simpa using hz) hcell hwz
      exact ⟨l, hl2, hl, by omega⟩
  obtain ⟨a2, n2, c2, rfl⟩ := okWide_slice Try.underlying49 (hval 2 49 v2 rfl rfl)
  have k2 := h2
  have lt2 : ∀ x ∈ p2, x.block < W.heap.size := by obtain ⟨m, hm⟩ := k2; exact DataW.trod_lt m _ _ _ hm
  obtain ⟨l2, w2, x2, m2, b2⟩ : ∃ l : List Int, Rd W W.heap.size a2 n2 (iv l) ∧ (∀ x ∈ l, -9223372036854775808 ≤ x ∧ x ≤ 9223372036854775807) ∧ n2 ≤ c2 ∧ n2 ≤ 9223372036854775807 := by
    obtain ⟨fuel, hf⟩ := h2
    rcases open_ints Try.underlying49 Try.underlying3 (by kernel_rfl) hf with ⟨hcs, _⟩ | ⟨x, l, c, zs, hcs, _, hl, hm, hz, _, hcell, hwz⟩
    · simp [Value.cells] at hcs
      obtain ⟨rfl, rfl, rfl⟩ := hcs
      exact ⟨[], Rd.nil _ _ _, (fun _ h => by cases h), Nat.le_refl _, by omega⟩
    · simp [Value.cells] at hcs
      obtain ⟨rfl, rfl, rfl⟩ := hcs
      unfold maxLen at hm
      obtain ⟨l, hl2, hx⟩ := rd_ints hl (by simpa using hz) hcell hwz
      exact ⟨l, hl2, hx, hl, by omega⟩
  clear hA0 hval0
  refine (walk a0 a1 n1 c1 l1 a2 n2 c2 l2 W w0 w1 m1 b1 w2 m2 b2 x2).mono fun e W' ⟨he, bel⟩ => ?_
  subst he
  exact ⟨_, rfl, _, _, _, [], _, [], hW', trodAll_mk1 (shut_bool Try.underlying4 _), (trodAll_cons_mk (shut_int Try.underlying22 w0) (trodAll_cons_mk (Below.trod laidOut (by kernel_rfl) (of_decide_eq_true (by kernel_rfl)) k1 bel lt1) (trodAll_cons_mk (Below.trod laidOut (by kernel_rfl) (of_decide_eq_true (by kernel_rfl)) k2 bel lt2) trodAll_mk0))), rfl, bel.frame _, fun h => by cases h⟩

theorem over : Rows.chunkPiecesRow.holds Try.pinned (OpenSpec.ofChange Rows.chunkPiecesSpec) :=
  OpenClaim.holds_of_wide 6 Try.f6 rfl rfl rfl rfl rfl rfl rfl ⟨rfl, rfl, rfl, rfl, rfl⟩ rfl rfl rfl rfl rfl (by kernel_rfl) Try.func6 (by kernel_rfl)
    (of_decide_eq_true (by kernel_rfl)) (by unfold Func.isWrapper; first | (rw [if_pos (by decide +kernel)]; kernel_rfl) | (rw [if_neg (by decide +kernel)]; exact ⟨rfl, rfl⟩))
    (fun os started H enc _ => lifted os started H enc)
/-- the given statement -/
theorem proved : Rows.ChunkPiecesSaid := over
#print axioms proved
end Go.Proofs.Ytjmgokjflfhohaa.chunkPiecesDone
