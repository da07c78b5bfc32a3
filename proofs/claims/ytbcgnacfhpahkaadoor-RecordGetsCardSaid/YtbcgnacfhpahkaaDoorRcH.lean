/- record: a note's record. -/
import Derived.Test.YtbcgnacfhpahkaaDoorRcG
namespace Go.Proofs.YtbcgnacfhpahkaaDoor.rc
set_option maxRecDepth 20000
open Go.RowKit Mem OM
set_option linter.unusedVariables false
set_option linter.unusedSimpArgs false
attribute [local go_sem] Oper.semAt_some
/-- a note's cells: kind, flow, ports, index, record -/
def noteL (N F P D I K S : Int) (d : List UInt8) (A : Option Addr) (n c : Nat) : List Value := .int .i64 N :: .int .i64 F :: .int .i64 P :: .int .i64 D :: .int .i64 I :: recL K S d A n c
theorem noteL_len {N F P D I K S : Int} {d : List UInt8} {A : Option Addr} {n c : Nat} (hd : d.length = 32) : (noteL N F P D I K S d A n c).length = 40 := by
  unfold noteL; simp [recL_len hd]
theorem note_rec {N F P D I K S : Int} {d : List UInt8} {A : Option Addr} {n c : Nat} {w : World} {g : Nat} (h : w.rangeAt g 0 (noteL N F P D I K S d A n c)) : w.rangeAt g 5 (recL K S d A n c) := fun j v hj => by
  have := h (5 + j) v (by
    unfold noteL
    rw [show 5 + j = j + 1 + 1 + 1 + 1 + 1 by omega, List.getElem?_cons_succ, List.getElem?_cons_succ, List.getElem?_cons_succ, List.getElem?_cons_succ, List.getElem?_cons_succ]
    exact hj)
  rwa [Nat.zero_add] at this
theorem rec_sum {K S : Int} {d : List UInt8} {A : Option Addr} {n c : Nat} {w : World} {g : Nat} (h : w.rangeAt g 0 (recL K S d A n c)) : w.rangeAt g 2 (bv d) := fun j v hj => by
  have hj2 : j < (bv d).length := (List.getElem?_eq_some_iff.1 hj).1
  have := h (2 + j) v (by
    unfold recL
    rw [show 2 + j = j + 1 + 1 by omega, List.getElem?_cons_succ, List.getElem?_cons_succ, List.getElem?_append_left hj2]
    exact hj)
  rwa [Nat.zero_add] at this
theorem wp_build_g {P : Program} {ops : Array Oper} {rest : List Oper} {o : Oper} {a : Act} {w : World} {Q : Exit → Act → World → Prop} (hw : Region.wanted o (yielded ops a.tmps) = true) (t : TypeId) (parts : Array (Nat × Operand)) (ho : o.op = .build t parts) (v : Value)
    (hrun : (Instr.build t (parts.map fun (i, x) => (i, a.eval x))).run P w = .ok v w) (h : wpList P ops Q rest (a.put o.dst v) w) : wpList P ops Q (o :: rest) a w :=
  wpList_step fun K hK => by
    rw [if_pos hw]
    unfold Oper.wp execOp
    simp only [ho, Sem.run_bind, Result.andThen_ok, hrun]
    exact hK _ _ h
theorem build_zsum (w : World) : (Instr.build 23 #[]).run Tryd.prog w = .ok (.agg (bv z32).toArray) w := by kernel_rfl
def fitsN (N K S : Int) (d : List UInt8) (n : Nat) : Bool := if N = 2 then decide (chk K S n = 0) else decide (K = 0 ∧ S = 0 ∧ d = z32 ∧ n = 0)
set_option maxHeartbeats 4000000 in
theorem fitsRecord_any (N F P D I K S : Int) (d : List UInt8) (hd : d.length = 32) (A : Option Addr) (n c : Nat) (w : World) : Calls Tryd.prog 34 #[.agg (noteL N F P D I K S d A n c).toArray] w fun e w' => e = .returned (.bool (fitsN N K S d n)) ∧ Below w.heap.size w w' := by
  have hr := dg.range_new w (noteL N F P D I K S d A n c) 28
  have hb : Below w.heap.size w (w.alloc (.cells (noteL N F P D I K S d A n c).toArray 28)) := (Below.refl _ _).alloc (Nat.le_refl _) _
  have hlt : w.heap.size < (w.alloc (.cells (noteL N F P D I K S d A n c).toArray 28)).heap.size := by simp
  obtain ⟨NA, hNA⟩ : ∃ NA, (noteL N F P D I K S d A n c).toArray = NA := ⟨_, rfl⟩
  rw [hNA] at hr hb hlt ⊢
  obtain ⟨W, hW⟩ : ∃ W, w.alloc (.cells NA 28) = W := ⟨_, rfl⟩
  rw [hW] at hr hb hlt
  have c0 : W.cell? ⟨w.heap.size, 0, none⟩ = some (.int .i64 N) := hr 0 _ rfl
  have hr5 := note_rec hr
  have hR35 := recL_len (K := K) (S := S) (A := A) (n := n) (c := c) hd
  have hck := fun y => check_any K S d hd A n c y
  have hone : ∀ v ∈ recL K S d A n c, v.oneCell' = true := rec_one
  have hset := fun (y : World) (hy : y.there y.heap.size 0 35) => hy
  have hw4 := World.rangeAt_setCells_same (W.alloc (.cells recZ.toArray 26)) W.heap.size 0 (recL K S d A n c) (by rw [hR35]; exact rec_zero_there W)
  have hb4 := (dg.Keep1.sets W.heap.size (recL K S d A n c) 0 (W.alloc (.cells recZ.toArray 26))).below (hb.alloc hb.size (.cells recZ.toArray 26)) (by simp; omega) (Nat.le_of_lt hlt)
  have k0 := hw4 0 _ rfl
  have k1 := hw4 1 _ rfl
  have k34 := hw4 34 _ (recL_34 hd)
  have ks := rec_sum hw4
  obtain ⟨RL, hRL⟩ : ∃ RL, recL K S d A n c = RL := ⟨_, rfl⟩
  rw [hRL] at hr5 hR35 hone k0 k1 k34 ks hb4
  simp only [hRL] at hck
  obtain ⟨RA, hRA⟩ : ∃ RA, RL.toArray = RA := ⟨_, rfl⟩
  simp only [hRA] at hck
  have hRAL : RA.toList = RL := by rw [← hRA]
  have hone2 : RA.all (·.oneCell') = true := by rw [← hRA]; exact all_oneCell_toArray hone
  have hsz : RA.size = 35 := by rw [← hRA]; exact hR35
  have hinfL : (Tryd.prog.info? 26).map (·.size) = some RL.length := by rw [hR35]; exact info_rec
  have hinf : (Tryd.prog.info? 26).map (·.size) = some RA.size := by rw [hsz]; exact info_rec
  have hth2 : ∀ y : World, (y.alloc (.cells recZ.toArray 26)).there y.heap.size 0 RA.size := fun y => by rw [hsz]; exact rec_zero_there y
  clear hNA hRL hset hw4
  by_cases hN : N = 2
  · have e1 : fitsN N K S d n = decide (chk K S n = 0) := by unfold fitsN; rw [if_pos hN]
    rw [e1]
    subst hN
    obtain ⟨q, hq⟩ : ∃ q, chk K S n = q := ⟨_, rfl⟩
    rw [hq] at hck ⊢
    have hqb : ((q : Int) == 0) = decide (q = 0) := by
      by_cases h : q = 0
      · subst h; rfl
      · rw [decide_eq_false h]; exact beq_eq_false_iff_ne.2 (by omega)
    clear k0 k1 k34 ks hb4
    go_enter Tryd.func34, Tryd.ntmps34
    go_upto_region 1 with fail
    try rw [hW]
    go_wp2_with (first
      | (refine wpList_load_mid rfl 26 (.tmp 7) rfl w.heap.size 5 rfl RL _ hr5 Tryd.underlying26 rfl hinfL ?_; rw [hRA])
      | (go_at_call 13; refine (hck _).mono ?_; rintro e w2 ⟨rfl, hb2⟩)
      | fail)
    go_ret
    refine ⟨?_, hb.trans (hb2.mono hb.size)⟩
    rw [← hqb]
    rfl
  · have e1 : fitsN N K S d n = decide (K = 0 ∧ S = 0 ∧ d = z32 ∧ n = 0) := by unfold fitsN; rw [if_neg hN]
    rw [e1]
    have hN2 : (N == 2) = false := beq_eq_false_iff_ne.2 hN
    by_cases hK : K = 0
    · subst hK
      by_cases hS : S = 0
      · subst hS
        by_cases hdz : d = z32
        · by_cases hn : n = 0
          · rw [decide_eq_true ⟨rfl, rfl, hdz, hn⟩]
            subst hn
            have hzl : (bv d).length = 32 := by rw [bv_len]; exact hd
            have hinfS : (Tryd.prog.info? 23).map (·.size) = some (bv d).length := by rw [hzl]; kernel_rfl
            have hbz := fun y => build_zsum y
            have heq := fun y => dg.sum_eql d z32 hd z32_len y
            obtain ⟨ZA, hZA⟩ : ∃ ZA, (bv z32).toArray = ZA := ⟨_, rfl⟩
            rw [hZA] at heq
            simp only [hZA] at hbz
            obtain ⟨DA, hDA⟩ : ∃ DA, (bv d).toArray = DA := ⟨_, rfl⟩
            rw [hDA] at heq
            rw [decide_eq_true hdz] at heq
            go_enter Tryd.func34, Tryd.ntmps34
            go_upto_region 1 with fail
            try rw [hW]
            go_upto_region 4 with (first
              | (refine wpList_load_mid rfl 26 (.tmp 11) rfl w.heap.size 5 rfl RL _ hr5 Tryd.underlying26 rfl hinfL ?_; rw [hRA])
              | (refine wpList_store_mid rfl 26 (.tmp 3) (.tmp 12) rfl W.heap.size 0 RA rfl rfl (hth2 W) hinf hone2 ?_)
              | fail)
            show Code.wp _ _ _ _ ((W.alloc (.cells recZ.toArray 26)).setCells W.heap.size 0 RA.toList)
            rw [hRAL]
            obtain ⟨W4, hW4⟩ : ∃ W4, (W.alloc (.cells recZ.toArray 26)).setCells W.heap.size 0 RL = W4 := ⟨_, rfl⟩
            rw [hW4] at k0 k1 k34 ks hb4 ⊢
            clear hW4
            go_wp2_with (first
              | (refine wpList_load_mid_g rfl 23 (.tmp 22) rfl W.heap.size 2 rfl (bv d) _ ks Tryd.underlying23 rfl hinfS ?_; rw [hDA])
              | (refine wp_build_g rfl _ _ rfl (.agg ZA) (by simp only [List.map_toArray, List.map_nil]; exact hbz _) ?_)
              | fail)
            go_ret
            exact ⟨rfl, hb4⟩
          · rw [decide_eq_false (fun q => hn q.2.2.2)]
            have hnb : ((n : Int) == 0) = false := beq_eq_false_iff_ne.2 (by omega)
            have hzl : (bv d).length = 32 := by rw [bv_len]; exact hd
            have hinfS : (Tryd.prog.info? 23).map (·.size) = some (bv d).length := by rw [hzl]; kernel_rfl
            have hbz := fun y => build_zsum y
            have heq := fun y => dg.sum_eql d z32 hd z32_len y
            obtain ⟨ZA, hZA⟩ : ∃ ZA, (bv z32).toArray = ZA := ⟨_, rfl⟩
            rw [hZA] at heq
            simp only [hZA] at hbz
            obtain ⟨DA, hDA⟩ : ∃ DA, (bv d).toArray = DA := ⟨_, rfl⟩
            rw [hDA] at heq
            rw [decide_eq_true hdz] at heq
            go_enter Tryd.func34, Tryd.ntmps34
            go_upto_region 1 with fail
            try rw [hW]
            go_upto_region 4 with (first
              | (refine wpList_load_mid rfl 26 (.tmp 11) rfl w.heap.size 5 rfl RL _ hr5 Tryd.underlying26 rfl hinfL ?_; rw [hRA])
              | (refine wpList_store_mid rfl 26 (.tmp 3) (.tmp 12) rfl W.heap.size 0 RA rfl rfl (hth2 W) hinf hone2 ?_)
              | fail)
            show Code.wp _ _ _ _ ((W.alloc (.cells recZ.toArray 26)).setCells W.heap.size 0 RA.toList)
            rw [hRAL]
            obtain ⟨W4, hW4⟩ : ∃ W4, (W.alloc (.cells recZ.toArray 26)).setCells W.heap.size 0 RL = W4 := ⟨_, rfl⟩
            rw [hW4] at k0 k1 k34 ks hb4 ⊢
            clear hW4
            go_wp2_with (first
              | (refine wpList_load_mid_g rfl 23 (.tmp 22) rfl W.heap.size 2 rfl (bv d) _ ks Tryd.underlying23 rfl hinfS ?_; rw [hDA])
              | (refine wp_build_g rfl _ _ rfl (.agg ZA) (by simp only [List.map_toArray, List.map_nil]; exact hbz _) ?_)
              | fail)
            go_ret
            exact ⟨rfl, hb4⟩
        · rw [decide_eq_false (fun q => hdz q.2.2.1)]
          have hzl : (bv d).length = 32 := by rw [bv_len]; exact hd
          have hinfS : (Tryd.prog.info? 23).map (·.size) = some (bv d).length := by rw [hzl]; kernel_rfl
          have hbz := fun y => build_zsum y
          have heq := fun y => dg.sum_eql d z32 hd z32_len y
          obtain ⟨ZA, hZA⟩ : ∃ ZA, (bv z32).toArray = ZA := ⟨_, rfl⟩
          rw [hZA] at heq
          simp only [hZA] at hbz
          obtain ⟨DA, hDA⟩ : ∃ DA, (bv d).toArray = DA := ⟨_, rfl⟩
          rw [hDA] at heq
          rw [decide_eq_false hdz] at heq
          go_enter Tryd.func34, Tryd.ntmps34
          go_upto_region 1 with fail
          try rw [hW]
          go_upto_region 4 with (first
            | (refine wpList_load_mid rfl 26 (.tmp 11) rfl w.heap.size 5 rfl RL _ hr5 Tryd.underlying26 rfl hinfL ?_; rw [hRA])
            | (refine wpList_store_mid rfl 26 (.tmp 3) (.tmp 12) rfl W.heap.size 0 RA rfl rfl (hth2 W) hinf hone2 ?_)
            | fail)
          show Code.wp _ _ _ _ ((W.alloc (.cells recZ.toArray 26)).setCells W.heap.size 0 RA.toList)
          rw [hRAL]
          obtain ⟨W4, hW4⟩ : ∃ W4, (W.alloc (.cells recZ.toArray 26)).setCells W.heap.size 0 RL = W4 := ⟨_, rfl⟩
          rw [hW4] at k0 k1 k34 ks hb4 ⊢
          clear hW4
          go_wp2_with (first
            | (refine wpList_load_mid_g rfl 23 (.tmp 22) rfl W.heap.size 2 rfl (bv d) _ ks Tryd.underlying23 rfl hinfS ?_; rw [hDA])
            | (refine wp_build_g rfl _ _ rfl (.agg ZA) (by simp only [List.map_toArray, List.map_nil]; exact hbz _) ?_)
            | fail)
          go_ret
          exact ⟨rfl, hb4⟩
      · rw [decide_eq_false (fun q => hS q.2.1)]
        have hSb : (S == 0) = false := beq_eq_false_iff_ne.2 hS
        go_enter Tryd.func34, Tryd.ntmps34
        go_upto_region 1 with fail
        try rw [hW]
        go_upto_region 4 with (first
          | (refine wpList_load_mid rfl 26 (.tmp 11) rfl w.heap.size 5 rfl RL _ hr5 Tryd.underlying26 rfl hinfL ?_; rw [hRA])
          | (refine wpList_store_mid rfl 26 (.tmp 3) (.tmp 12) rfl W.heap.size 0 RA rfl rfl (hth2 W) hinf hone2 ?_)
          | fail)
        show Code.wp _ _ _ _ ((W.alloc (.cells recZ.toArray 26)).setCells W.heap.size 0 RA.toList)
        rw [hRAL]
        obtain ⟨W4, hW4⟩ : ∃ W4, (W.alloc (.cells recZ.toArray 26)).setCells W.heap.size 0 RL = W4 := ⟨_, rfl⟩
        rw [hW4] at k0 k1 k34 ks hb4 ⊢
        clear hW4
        go_wp2_with fail
        go_ret
        exact ⟨rfl, hb4⟩
    · rw [decide_eq_false (fun q => hK q.1)]
      have hKb : (K == 0) = false := beq_eq_false_iff_ne.2 hK
      go_enter Tryd.func34, Tryd.ntmps34
      go_upto_region 1 with fail
      try rw [hW]
      go_upto_region 4 with (first
        | (refine wpList_load_mid rfl 26 (.tmp 11) rfl w.heap.size 5 rfl RL _ hr5 Tryd.underlying26 rfl hinfL ?_; rw [hRA])
        | (refine wpList_store_mid rfl 26 (.tmp 3) (.tmp 12) rfl W.heap.size 0 RA rfl rfl (hth2 W) hinf hone2 ?_)
        | fail)
      show Code.wp _ _ _ _ ((W.alloc (.cells recZ.toArray 26)).setCells W.heap.size 0 RA.toList)
      rw [hRAL]
      obtain ⟨W4, hW4⟩ : ∃ W4, (W.alloc (.cells recZ.toArray 26)).setCells W.heap.size 0 RL = W4 := ⟨_, rfl⟩
      rw [hW4] at k0 k1 k34 ks hb4 ⊢
      clear hW4
      go_wp2_with fail
      go_ret
      exact ⟨rfl, hb4⟩
end Go.Proofs.YtbcgnacfhpahkaaDoor.rc
