/- record: Open. -/
import Derived.Test.YtbcgnacfhpahkaaDoorRcF
import Derived.Test.YtbcgnacfhpahkaaDoorRcK
namespace Go.Proofs.YtbcgnacfhpahkaaDoor.rc
set_option maxRecDepth 20000
open Go.RowKit Mem OM LM DM
set_option linter.unusedVariables false
set_option linter.unusedSimpArgs false
attribute [local go_sem] Oper.semAt_some
def openR (K S : Int) (d x : List UInt8) : List UInt8 × Nat := if chk K S x.length ≠ 0 then ([], 100) else if K = 1 then ([], 110) else if (carR K S x).2 ≠ 0 then ([], 100) else if digest (carR K S x).1 ≠ d then ([], 111) else ((carR K S x).1, 0)
theorem chk_two (K S : Int) (n : Nat) : chk K S n = 0 ∨ chk K S n = 100 := by
  unfold chk; split
  · exact Or.inl rfl
  · exact Or.inr rfl
theorem carR_two (K S : Int) (x : List UInt8) : (carR K S x).2 = 0 ∨ carR K S x = ([], 100) := by
  unfold carR; split
  · exact Or.inl rfl
  · split
    · exact Or.inr rfl
    · exact Or.inl rfl
theorem chk_size {K S : Int} {n : Nat} (h : chk K S n = 0) : S ≤ 256 := by
  unfold chk fitsR fitsS at h
  by_cases h2 : 1 ≤ S ∧ S ≤ 256
  · exact h2.2
  · rw [decide_eq_false h2] at h
    simp at h
theorem carR_len (K S : Int) (x : List UInt8) (hS : S ≤ 256) {n : Nat} (hx : x.length = n) (hn : n ≤ 1048576) : (carR K S x).1.length ≤ 549755813888 := by
  unfold carR; split
  · simp only; omega
  · split
    · simp
    · simp only; omega
set_option maxHeartbeats 4000000 in
theorem open_any (K S : Int) (d : List UInt8) (hd : d.length = 32) (A : Option Addr) (n c B : Nat) (x : List UInt8) (w : World) (h : Rd w B A n (bv x)) (hB : B ≤ w.heap.size) (hn : n ≤ 1048576) (hS : -9223372036854775808 ≤ S ∧ S ≤ 9223372036854775807) (hT : dg.Tab w) :
    Calls Tryd.prog 22 #[.agg (recL K S d A n c).toArray] w (MadeE w (openR K S d x)) := by
  have hxl : x.length = n := by rw [← h.len, bv_len]
  obtain ⟨c0, c1, c34⟩ := rec_box w K S d hd A n c 26
  have hr := dg.range_new w (recL K S d A n c) 26
  have hb : Below w.heap.size w (w.alloc (.cells (recL K S d A n c).toArray 26)) := (Below.refl _ _).alloc (Nat.le_refl _) _
  have hlt : w.heap.size < (w.alloc (.cells (recL K S d A n c).toArray 26)).heap.size := by simp
  have hR35 := recL_len (K := K) (S := S) (A := A) (n := n) (c := c) hd
  have hck := fun y => check_any K S d hd A n c y
  have hcar := fun (y : World) (hy : Below w.heap.size w y) => carried_any K S d hd A n c B x y (h.below hy hB) (Nat.le_trans hB hy.size) hn hS
  have hsum : ∀ j v, (bv d)[j]? = some v → (recL K S d A n c)[2 + j]? = some v := fun j v hj => by
    have hj2 : j < (bv d).length := (List.getElem?_eq_some_iff.1 hj).1
    unfold recL
    rw [show 2 + j = j + 1 + 1 by omega, List.getElem?_cons_succ, List.getElem?_cons_succ, List.getElem?_append_left hj2]
    exact hj
  unfold openR MadeE
  rw [hxl]
  obtain ⟨RL, hRL⟩ : ∃ RL, recL K S d A n c = RL := ⟨_, rfl⟩
  rw [hRL] at hb hr c0 c1 c34 hR35 hlt ⊢
  simp only [hRL] at hck hcar hsum
  obtain ⟨RA, hRA⟩ : ∃ RA, RL.toArray = RA := ⟨_, rfl⟩
  rw [hRA] at hb hr c0 c1 c34 hlt ⊢
  simp only [hRA] at hck hcar
  obtain ⟨W, hW⟩ : ∃ W, w.alloc (.cells RA 26) = W := ⟨_, rfl⟩
  rw [hW] at hb hr c0 c1 c34 hlt
  have hinfL : (Tryd.prog.info? 26).map (·.size) = some RL.length := by rw [hR35]; exact info_rec
  have hrs : W.rangeAt w.heap.size 2 (bv d) := fun j v hj => by
    have := hr (2 + j) v (hsum j v hj)
    rwa [Nat.zero_add] at this
  have HRS := Lib.hid hrs
  have HW := Lib.hid hW
  clear hRL hsum hrs c34 hR35
  rcases chk_two K S n with hc0 | hc1
  · rw [if_neg (by omega)]
    rw [hc0] at hck
    by_cases k1 : K = 1
    · rw [if_pos k1]
      subst k1
      go_enter Tryd.func22, Tryd.ntmps22
      go_upto_region 1 with fail
      try rw [hW]
      go_wp2_with (first
        | (refine wpList_load_mid rfl 26 (.tmp 1) rfl w.heap.size 0 rfl RL _ hr Tryd.underlying26 rfl hinfL ?_; rw [hRA])
        | (go_at_call 13; refine (hck _).mono ?_; rintro e w2 ⟨rfl, hb2⟩; have q0 := (hb2.cell (p := ⟨w.heap.size, 0, none⟩) hlt).trans c0)
        | fail)
      go_ret2
      exact ⟨none, 0, 0, rfl, Ow.nil _ _ _, hb.trans (hb2.mono hb.size)⟩
    · rw [if_neg k1]
      have hk1 : (K == 1) = false := beq_eq_false_iff_ne.2 k1
      rcases carR_two K S x with hz | hz
      · rw [if_neg (by omega)]
        unfold MadeE at hcar
        rw [hz] at hcar
        obtain ⟨y, hy⟩ : ∃ y, (carR K S x).1 = y := ⟨_, rfl⟩
        rw [hy] at hcar ⊢
        have HYL : Hid (y.length ≤ 549755813888) := Lib.hid (by rw [← hy]; exact carR_len K S x (chk_size hc0) hxl hn)
        clear hz hy
        obtain ⟨bb, hbb⟩ : ∃ bb, (!decide (digest y = d)) = bb := ⟨_, rfl⟩
        have hne := fun w => dg.sum_neq (digest y) d (digest_len _) hd w
        rw [hbb] at hne
        obtain ⟨RR, hRR⟩ : ∃ RR, (if digest y ≠ d then (([] : List UInt8), 111) else (y, 0)) = RR := ⟨_, rfl⟩
        rw [hRR]
        have HBB := Lib.hid (And.intro hbb hRR)
        clear hbb hRR
        go_enter Tryd.func22, Tryd.ntmps22
        go_upto_region 1 with fail
        try rw [hW]
        go_upto_region 9 with (first
          | (refine wpList_load_mid rfl 26 (.tmp 1) rfl w.heap.size 0 rfl RL _ (by first | exact hr | exact hr2) Tryd.underlying26 rfl hinfL ?_; rw [hRA])
          | (go_at_call 13; refine (hck _).mono ?_; rintro e w2 ⟨rfl, hb2⟩; have q0 := (hb2.cell (p := ⟨w.heap.size, 0, none⟩) hlt).trans c0; have hr2 := dg.range_below hr hb2 hlt)
          | (go_at_call 39; refine (hcar _ (hb.trans (hb2.mono hb.size))).mono ?_; rintro e w3 ⟨A3, N3, c3, rfl, ho3, hb3⟩)
          | fail)
        have hb13 : Below w.heap.size w w3 := (hb.trans (hb2.mono hb.size)).trans (hb3.mono (Nat.le_trans hb.size hb2.size))
        have hrs3 : w3.rangeAt w.heap.size 2 (bv d) := dg.range_below (dg.range_below HRS.out hb2 hlt) hb3 (Nat.lt_of_lt_of_le hlt hb2.size)
        have hlt3 : w.heap.size < w3.heap.size := Nat.lt_of_lt_of_le hlt (Nat.le_trans hb2.size hb3.size)
        have hT3 := hT.below hb13
        have hy549 : y.length ≤ 549755813888 := HYL.out
        have hcap := ho3.cap.1
        have ho13 := ho3.base (Nat.le_trans hb.size hb2.size)
        have hzl : (bv d).length = 32 := by rw [bv_len]; exact hd
        have hinfS : (Tryd.prog.info? 23).map (·.size) = some (bv d).length := by rw [hzl]; kernel_rfl
        have HP := Lib.hid (And.intro hT3 (And.intro ho3.rd (And.intro hb13 ho13)))
        clear hT3 ho3 ho13 hb3 hr2 q0 hr hck hcar hb2 c0 c1
        refine wp_region_held_drew (S := fun y => Below w3.heap.size w3 y) (by kernel_rfl) (lz.below_drew (Below.refl _ _)) (fun hHeld => ?_)
        refine wpAnyH_take (i := 0) (v := .slice A3 N3 c3) rfl (by kernel_rfl) (by kernel_rfl) (by kernel_rfl) (fun _ _ _ h => h) (Or.inl ⟨by rfl, ?hy0⟩) (by assumption) ?rest0
        case hy0 => (intro w hSw; (try dsimp only at hSw); go_split_ands; go_simp; try with_reducible rfl)
        try simp only [Act.put]
        refine wpAnyH_take (i := 3) (v := .pointer (some ⟨w.heap.size, 2, none⟩)) rfl (by kernel_rfl) (by kernel_rfl) (by kernel_rfl) (fun _ _ _ h => h) (Or.inl ⟨by rfl, ?hy3⟩) (by assumption) ?rest3
        case hy3 => (intro w hSw; (try dsimp only at hSw); go_split_ands; go_simp; try with_reducible rfl)
        try simp only [Act.put]
        refine wpAnyH_take (i := 4) (v := .agg (bv d).toArray) rfl (by kernel_rfl) (by kernel_rfl) (by kernel_rfl) (fun _ _ _ h => h) (yieldsIf_load_mid (by rfl) 23 (.tmp 26) rfl w.heap.size 2 rfl (bv d) _ (fun y hy => dg.range_below hrs3 hy hlt3) Tryd.underlying23 rfl hinfS) (by assumption) ?rest4
        try simp only [Act.put]
        refine wpAnyH_ready (rs := [1]) (by kernel_rfl) (by simp) ?_
        refine AllReadyH.cons rfl (fun K hK => ?_) AllReadyH.nil
        go_simp
        have hV0 : Below w3.heap.size w3 (w3.alloc (.cells #[.slice A3 N3 c3] 24)) := (Below.refl _ _).alloc (Nat.le_refl _) _
        have hV : Below w3.heap.size w3 (w3.alloc (.cells #[.slice A3 N3 c3] 24)).drew := lz.below_drew hV0
        have hp := dg.Parts.one HP.out.2.1 hcap (Nat.le_refl _) 24
        have hp2 := hp.below (lz.below_drew (Below.refl (w3.alloc (.cells #[.slice A3 N3 c3] 24)).heap.size _)) (by simp)
        have hof := dg.of_any _ 1 1 _ _ _ (HP.out.1.below hV) hp2 (by show _ ≤ (w3.alloc (.cells #[.slice A3 N3 c3] 24)).heap.size; simp) (by omega) (by rw [dg.tot_flat]; simp; omega)
        rw [show [y].flatten = y by simp] at hof
        have HOF := Lib.hid hof
        clear hof hp hp2
        refine hK.out _ _ hV (fun hHeld2 => ?_)
        clear hK K
        try simp only [Act.put]
        refine wpAnyH_ready (rs := [2]) (by kernel_rfl) (by simp) ?_
        refine AllReadyH.cons rfl (fun K hK => ?_) AllReadyH.nil
        go_simp
        refine (HOF.out).mono ?_
        rintro e w4 ⟨rfl, hb4⟩
        have hV4 : Below w3.heap.size w3 w4 := hV.trans (hb4.mono hV.size)
        refine hK.out _ _ hV4 (fun hHeld3 => ?_)
        clear hK K
        try simp only [Act.put]
        refine wpAnyH_take (i := 5) (v := .bool bb) rfl (by kernel_rfl) (by kernel_rfl) (by kernel_rfl) (fun _ _ _ h => h) (Or.inl ⟨by rfl, ?hy5⟩) (by assumption) ?rest5
        case hy5 => (intro w hSw; (try dsimp only at hSw); go_split_ands; go_simp; try (rw [hne]; rfl))
        try simp only [Act.put]
        refine wpAnyH_done (by kernel_rfl) ?_ _
        clear hHeld hHeld2 hHeld3
        have hb14 := HP.out.2.2.1.trans (hV4.mono HP.out.2.2.1.size)
        cases bb with
        | true =>
          have hq : ¬ digest y = d := by have := HBB.out.1; simpa using this
          have hrr := HBB.out.2
          rw [if_pos hq] at hrr
          have HRR := Lib.hid hrr
          clear hrr
          go_wp2_with fail
          go_ret2
          rw [← HRR.out]
          exact ⟨none, 0, 0, rfl, Ow.nil _ _ _, hb14⟩
        | false =>
          have hq : digest y = d := by have := HBB.out.1; simpa using this
          have hrr := HBB.out.2
          rw [if_neg (fun q => q hq)] at hrr
          have HRR := Lib.hid hrr
          clear hrr
          go_wp2_with fail
          go_ret2
          rw [← HRR.out]
          exact ⟨A3, N3, c3, rfl, HP.out.2.2.2.below hV4 (Nat.le_refl _), hb14⟩
      · rw [if_pos (by rw [hz]; simp)]
        unfold MadeE at hcar
        rw [hz] at hcar
        go_enter Tryd.func22, Tryd.ntmps22
        go_upto_region 1 with fail
        try rw [hW]
        go_wp2_with (first
          | (refine wpList_load_mid rfl 26 (.tmp 1) rfl w.heap.size 0 rfl RL _ (by first | exact hr | exact hr2) Tryd.underlying26 rfl hinfL ?_; rw [hRA])
          | (go_at_call 13; refine (hck _).mono ?_; rintro e w2 ⟨rfl, hb2⟩; have q0 := (hb2.cell (p := ⟨w.heap.size, 0, none⟩) hlt).trans c0; have hr2 := dg.range_below hr hb2 hlt)
          | (go_at_call 39; refine (hcar _ (hb.trans (hb2.mono hb.size))).mono ?_; rintro e w3 ⟨A3, N3, c3, rfl, ho3, hb3⟩)
          | fail)
        go_ret2
        exact ⟨none, 0, 0, rfl, Ow.nil _ _ _, (hb.trans (hb2.mono hb.size)).trans (hb3.mono (Nat.le_trans hb.size hb2.size))⟩
  · rw [if_pos (by omega)]
    rw [hc1] at hck
    go_enter Tryd.func22, Tryd.ntmps22
    go_upto_region 1 with fail
    try rw [hW]
    go_wp2_with (first
      | (refine wpList_load_mid rfl 26 (.tmp 1) rfl w.heap.size 0 rfl RL _ hr Tryd.underlying26 rfl hinfL ?_; rw [hRA])
      | (go_at_call 13; refine (hck _).mono ?_; rintro e w2 ⟨rfl, hb2⟩)
      | fail)
    go_ret2
    exact ⟨none, 0, 0, rfl, Ow.nil _ _ _, hb.trans (hb2.mono hb.size)⟩
end Go.Proofs.YtbcgnacfhpahkaaDoor.rc
