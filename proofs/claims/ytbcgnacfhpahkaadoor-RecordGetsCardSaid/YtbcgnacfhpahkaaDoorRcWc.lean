/- RcW5, RcW6 in one. -/
import Derived.Test.YtbcgnacfhpahkaaDoorRcSV
namespace Go.Proofs.YtbcgnacfhpahkaaDoor.rc
set_option maxRecDepth 20000
open Go.RowKit Mem OM LM DM
set_option linter.unusedVariables false
set_option linter.unusedSimpArgs false
attribute [local go_sem] Oper.semAt_some
set_option maxHeartbeats 40000000 in
theorem refFits_5 (N F P D I K S : Int) (d : List UInt8) (hd : d.length = 32) (A : Option Addr) (n c : Nat) (w : World) (hN : N = 5) : Calls Tryd.prog 16 #[.agg (noteL N F P D I K S d A n c).toArray] w fun e w' => e = .returned (.int .i64 (fitE N F P D I K S d n : Nat)) ∧ Below w.heap.size w w' := by
  have hr := dg.range_new w (noteL N F P D I K S d A n c) 28
  have hb : Below w.heap.size w (w.alloc (.cells (noteL N F P D I K S d A n c).toArray 28)) := (Below.refl _ _).alloc (Nat.le_refl _) _
  have hlt : w.heap.size < (w.alloc (.cells (noteL N F P D I K S d A n c).toArray 28)).heap.size := by simp
  have hinfN : (Tryd.prog.info? 28).map (·.size) = some (noteL N F P D I K S d A n c).length := by rw [noteL_len hd]; kernel_rfl
  have hr5 := note_rec hr
  have hs7 : (w.alloc (.cells (noteL N F P D I K S d A n c).toArray 28)).rangeAt w.heap.size 7 (bv d) := fun j v hj => by
    have hj2 : j < (bv d).length := (List.getElem?_eq_some_iff.1 hj).1
    have := hr5 (2 + j) v (by
      unfold recL
      rw [show 2 + j = j + 1 + 1 by omega, List.getElem?_cons_succ, List.getElem?_cons_succ, List.getElem?_append_left hj2]
      exact hj)
    rwa [show 5 + (2 + j) = 7 + j by omega] at this
  have c0 := hr 0 _ rfl
  have c2 := hr 2 _ rfl
  have c3 := hr 3 _ rfl
  have c4 := hr 4 _ rfl
  have c5 := hr 5 _ rfl
  have c6 := hr 6 _ rfl
  have c39 := hr5 34 _ (recL_34 hd)
  rw [show 5 + 34 = 39 from rfl] at c39
  simp only [Nat.zero_add] at c0 c2 c3 c4 c5 c6
  have hnm := fun y => refNumbers_any N F P D I K S d hd A n c y
  unfold NumPost at hnm
  have hck := fun y => refCheck_any K S d hd A n c y
  unfold refCheckPost at hck
  have hR35 := recL_len (K := K) (S := S) (A := A) (n := n) (c := c) hd
  have hinfR : (Tryd.prog.info? 26).map (·.size) = some (recL K S d A n c).length := by rw [hR35]; exact info_rec
  have hinfS : (Tryd.prog.info? 23).map (·.size) = some (bv d).length := by rw [bv_len, hd]; kernel_rfl
  have hbz := fun y => build_zsum y
  have heq := fun y => dg.sum_neq d z32 hd z32_len y
  obtain ⟨E, hE⟩ : ∃ z, fitE N F P D I K S d n = z := ⟨_, rfl⟩
  rw [hE]
  obtain ⟨NL, hNL⟩ : ∃ z, noteL N F P D I K S d A n c = z := ⟨_, rfl⟩
  rw [hNL] at hr hr5 hs7 c0 c2 c3 c4 c5 c6 c39 hinfN hb hlt ⊢
  simp only [hNL] at hnm
  obtain ⟨NA, hNA⟩ : ∃ z, NL.toArray = z := ⟨_, rfl⟩
  rw [hNA] at hr hr5 hs7 c0 c2 c3 c4 c5 c6 c39 hb hlt ⊢
  simp only [hNA] at hnm
  obtain ⟨RL, hRL⟩ : ∃ z, recL K S d A n c = z := ⟨_, rfl⟩
  rw [hRL] at hr5 hinfR
  simp only [hRL] at hck
  obtain ⟨RA, hRA⟩ : ∃ z, RL.toArray = z := ⟨_, rfl⟩
  simp only [hRA] at hck
  obtain ⟨ZA, hZA⟩ : ∃ z, (bv z32).toArray = z := ⟨_, rfl⟩
  obtain ⟨DL, hDL⟩ : ∃ z, bv d = z := ⟨_, rfl⟩
  rw [hDL] at hs7 hinfS
  obtain ⟨DA, hDA⟩ : ∃ z, DL.toArray = z := ⟨_, rfl⟩
  simp only [hZA, hDL, hDA] at hbz heq
  obtain ⟨l, hl⟩ : ∃ z, numL N F P D I = z := ⟨_, rfl⟩
  simp only [hl] at hnm
  obtain ⟨W, hW⟩ : ∃ z, w.alloc (.cells NA 28) = z := ⟨_, rfl⟩
  rw [hW] at hr hr5 hs7 c0 c2 c3 c4 c5 c6 c39 hb hlt
  obtain ⟨g, hg⟩ : ∃ z, w.heap.size = z := ⟨_, rfl⟩
  rw [hg] at hr hr5 hs7 c0 c2 c3 c4 c5 c6 c39 hb hlt ⊢
  have HE := Lib.hid hE
  have HL := Lib.hid hl
  have HNA := Lib.hid hNA
  have HRA := Lib.hid hRA
  have HDA := Lib.hid hDA
  have HNM := Lib.hid hnm
  clear hE hl hNL hNA hRL hRA hZA hDL hDA hnm hR35
  go_enter Tryd.func16, Tryd.ntmps16
  go_upto_region 1 with fail
  try rw [hW]
  try rw [hg]
  go_upto_region 2 with (first
    | (refine wpList_load_mid rfl 28 (.tmp 1) rfl g 0 rfl NL _ hr Tryd.underlying28 rfl hinfN ?_; rw [HNA.out])
    | (go_at_call 35; refine (HNM.out _).mono ?_; rintro e w2 ⟨A1, rfl, hA0, hA1, hrd, hb2⟩)
    | fail)
  have hb02 : Below g w w2 := hb.trans (hb2.mono (Nat.le_of_lt hlt))
  have hr52 := dg.range_below hr5 hb2 hlt
  have hs72 := dg.range_below hs7 hb2 hlt
  have e0 := (hb2.cell (p := ⟨g, 0, none⟩) hlt).trans c0
  have e2 := (hb2.cell (p := ⟨g, 2, none⟩) hlt).trans c2
  have e3 := (hb2.cell (p := ⟨g, 3, none⟩) hlt).trans c3
  have e4 := (hb2.cell (p := ⟨g, 4, none⟩) hlt).trans c4
  have e5 := (hb2.cell (p := ⟨g, 5, none⟩) hlt).trans c5
  have e6 := (hb2.cell (p := ⟨g, 6, none⟩) hlt).trans c6
  have e39 := (hb2.cell (p := ⟨g, 39, none⟩) hlt).trans c39
  clear hr hr5 hs7 c0 c2 c3 c4 c5 c6 c39 HNM hb hb2 hlt hW
  have hnil := fun (y : World) (a : Option Addr) (n c : Nat) => Lib.run_eql_slice_nil y _ _ a n c 0 0 Tryd.underlying60
  have H2 := Lib.hid (And.intro hA0 (And.intro hA1 hrd))
  clear hA0 hA1 hrd
  go_wp2_with fail
  have hlen : l.length ≤ 3 := by
    rw [← HL.out]; clear hN; unfold numL
    split
    · simp
    · split
      · simp
      · split <;> simp
  go_loopw [12] (fun i wr => ∃ (k : Nat), i = .int .i64 (k : Int) ∧ k ≤ l.length ∧ Hid (∀ j (h : j < l.length), j < k → 1 ≤ l[j] ∧ l[j] ≤ 1073741824) ∧ w2 = wr) (fun i _ => l.length - (intOf i).toNat)
  case atStart => exact ⟨0, rfl, Nat.zero_le _, Lib.hid (fun j h hj => by omega), rfl⟩
  case round =>
    obtain ⟨k, rfl, hk2, HQ, rfl⟩ := hrel
    by_cases hkn : k < l.length
    · have hki : (k : Int) < (l.length : Int) := by omega
      obtain ⟨b, off, rfl, hB, hcell⟩ := H2.out.2.2.at_ hkn
      have hce : w2.cell? ⟨b, off + k, none⟩ = some (.int .i64 l[k]) := hcell.trans (by simp [nv, hkn])
      obtain ⟨x, hx⟩ : ∃ z, l[k] = z := ⟨_, rfl⟩
      rw [hx] at hce
      have hmem : x ∈ l := by rw [← hx]; exact List.getElem_mem hkn
      clear hcell
      by_cases x1 : x < 1
      · obtain rfl : E = 100 := by rw [← HE.out]; exact fitE_bad _ _ _ _ _ _ _ _ _ x (by rw [HL.out]; exact hmem) (Or.inl x1)
        go_wp2_with fail
        go_ret
        exact ⟨rfl, hb02⟩
      · by_cases x2 : 1073741824 < x
        · obtain rfl : E = 100 := by rw [← HE.out]; exact fitE_bad _ _ _ _ _ _ _ _ _ x (by rw [HL.out]; exact hmem) (Or.inr x2)
          go_wp2_with fail
          go_ret
          exact ⟨rfl, hb02⟩
        · go_wp2_with fail
          exact ⟨⟨k + 1, by go_num, by omega, Lib.hid (fun j h hj => by
            rcases Nat.lt_or_ge j k with hjk | hjk
            · exact HQ.out j h hjk
            · obtain rfl : j = k := by omega
              rw [hx]; omega), trivial⟩, by simp [intOf]; omega⟩
    · obtain rfl : k = l.length := by omega
      have hkn2 : ¬ ((l.length : Nat) : Int) < (l.length : Int) := by omega
      have hq := HQ.out
      clear HQ
      by_cases k1 : N = 1
      · subst k1
        exfalso; omega
      have n1 : (N == 1) = false := beq_eq_false_iff_ne.2 k1
      by_cases k2 : N = 2
      · subst k2
        exfalso; omega
      have n2 : (N == 2) = false := beq_eq_false_iff_ne.2 k2
      by_cases k5 : N = 5
      · subst k5
        obtain rfl : l = [F, I] := by rw [← HL.out]; rfl
        have hF : 1 ≤ F ∧ F ≤ 1073741824 := hq 0 (by simp) (by simp)
        have hI : 1 ≤ I ∧ I ≤ 1073741824 := hq 1 (by simp) (by simp)
        obtain ⟨b, hbA, _, _⟩ := H2.out.2.1 (by simp)
        subst hbA
        clear H2 HL hq
        by_cases zP : P = 0
        · subst zP
          by_cases zD : D = 0
          · subst zD
            go_upto_region 9 with fail
            by_cases zK : K = 0
            · subst zK
              by_cases zS : S = 0
              · subst zS
                by_cases zd : d = z32
                · rw [decide_eq_true zd] at heq
                  by_cases zn : n = 0
                  · subst zn
                    obtain rfl : E = 0 := by rw [← HE.out]; exact fitE_vn _ _ _ _ _ _ _ _ _ (by rw [fitsV_2 _ _ _ _ _ (by omega)]; exact decide_eq_true (by omega)) (by rw [fitsN_o _ _ _ _ _ (by omega)]; exact decide_eq_true ⟨rfl, rfl, zd, rfl⟩)
                    go_upto_region 10 with (first
                      | (guard_target =~ wpList _ _ _ (Oper.mk (some 69) _ _ _ _ _ :: _) _ _; refine wpList_load_mid_g rfl 23 (.tmp 68) rfl g 7 rfl DL _ hs72 Tryd.underlying23 rfl hinfS ?_; rw [HDA.out])
                      | (guard_target =~ wpList _ _ _ (Oper.mk (some 70) _ _ _ _ _ :: _) _ _; refine wp_build_g rfl _ _ rfl (.agg ZA) (by simp only [List.map_toArray, List.map_nil]; exact hbz _) ?_)
                      | fail)
                    go_wp2_with fail
                    go_ret
                    exact ⟨rfl, hb02⟩
                  · have pn : (0 : Int) < (n : Int) := by omega
                    obtain rfl : E = 100 := by rw [← HE.out]; exact fitE_n _ _ _ _ _ _ _ _ _ (by rw [fitsN_o _ _ _ _ _ (by omega)]; exact decide_eq_false (fun q => by first | exact zK q.1 | exact zS q.2.1 | exact zd q.2.2.1 | exact zn q.2.2.2))
                    go_upto_region 10 with (first
                      | (guard_target =~ wpList _ _ _ (Oper.mk (some 69) _ _ _ _ _ :: _) _ _; refine wpList_load_mid_g rfl 23 (.tmp 68) rfl g 7 rfl DL _ hs72 Tryd.underlying23 rfl hinfS ?_; rw [HDA.out])
                      | (guard_target =~ wpList _ _ _ (Oper.mk (some 70) _ _ _ _ _ :: _) _ _; refine wp_build_g rfl _ _ rfl (.agg ZA) (by simp only [List.map_toArray, List.map_nil]; exact hbz _) ?_)
                      | fail)
                    go_wp2_with fail
                    go_ret
                    exact ⟨rfl, hb02⟩
                · rw [decide_eq_false zd] at heq
                  obtain rfl : E = 100 := by rw [← HE.out]; exact fitE_n _ _ _ _ _ _ _ _ _ (by rw [fitsN_o _ _ _ _ _ (by omega)]; exact decide_eq_false (fun q => by first | exact zK q.1 | exact zS q.2.1 | exact zd q.2.2.1 | exact zn q.2.2.2))
                  go_upto_region 10 with (first
                    | (guard_target =~ wpList _ _ _ (Oper.mk (some 69) _ _ _ _ _ :: _) _ _; refine wpList_load_mid_g rfl 23 (.tmp 68) rfl g 7 rfl DL _ hs72 Tryd.underlying23 rfl hinfS ?_; rw [HDA.out])
                    | (guard_target =~ wpList _ _ _ (Oper.mk (some 70) _ _ _ _ _ :: _) _ _; refine wp_build_g rfl _ _ rfl (.agg ZA) (by simp only [List.map_toArray, List.map_nil]; exact hbz _) ?_)
                    | fail)
                  go_wp2_with fail
                  go_ret
                  exact ⟨rfl, hb02⟩
              · have bzS : (S == 0) = false := beq_eq_false_iff_ne.2 zS
                obtain rfl : E = 100 := by rw [← HE.out]; exact fitE_n _ _ _ _ _ _ _ _ _ (by rw [fitsN_o _ _ _ _ _ (by omega)]; exact decide_eq_false (fun q => by first | exact zK q.1 | exact zS q.2.1 | exact zd q.2.2.1 | exact zn q.2.2.2))
                go_wp2_with fail
                go_ret
                exact ⟨rfl, hb02⟩
            · have bzK : (K == 0) = false := beq_eq_false_iff_ne.2 zK
              obtain rfl : E = 100 := by rw [← HE.out]; exact fitE_n _ _ _ _ _ _ _ _ _ (by rw [fitsN_o _ _ _ _ _ (by omega)]; exact decide_eq_false (fun q => by first | exact zK q.1 | exact zS q.2.1 | exact zd q.2.2.1 | exact zn q.2.2.2))
              go_wp2_with fail
              go_ret
              exact ⟨rfl, hb02⟩
          · have bzD : (D == 0) = false := beq_eq_false_iff_ne.2 zD
            go_upto_region 9 with fail
            by_cases zK : K = 0
            · subst zK
              by_cases zS : S = 0
              · subst zS
                by_cases zd : d = z32
                · rw [decide_eq_true zd] at heq
                  obtain rfl : E = 100 := by rw [← HE.out]; exact fitE_v _ _ _ _ _ _ _ _ _ (by rw [fitsV_2 _ _ _ _ _ (by omega)]; exact decide_eq_false (by omega))
                  go_upto_region 10 with (first
                    | (guard_target =~ wpList _ _ _ (Oper.mk (some 69) _ _ _ _ _ :: _) _ _; refine wpList_load_mid_g rfl 23 (.tmp 68) rfl g 7 rfl DL _ hs72 Tryd.underlying23 rfl hinfS ?_; rw [HDA.out])
                    | (guard_target =~ wpList _ _ _ (Oper.mk (some 70) _ _ _ _ _ :: _) _ _; refine wp_build_g rfl _ _ rfl (.agg ZA) (by simp only [List.map_toArray, List.map_nil]; exact hbz _) ?_)
                    | fail)
                  go_wp2_with fail
                  go_ret
                  exact ⟨rfl, hb02⟩
                · rw [decide_eq_false zd] at heq
                  obtain rfl : E = 100 := by rw [← HE.out]; exact fitE_v _ _ _ _ _ _ _ _ _ (by rw [fitsV_2 _ _ _ _ _ (by omega)]; exact decide_eq_false (by omega))
                  go_upto_region 10 with (first
                    | (guard_target =~ wpList _ _ _ (Oper.mk (some 69) _ _ _ _ _ :: _) _ _; refine wpList_load_mid_g rfl 23 (.tmp 68) rfl g 7 rfl DL _ hs72 Tryd.underlying23 rfl hinfS ?_; rw [HDA.out])
                    | (guard_target =~ wpList _ _ _ (Oper.mk (some 70) _ _ _ _ _ :: _) _ _; refine wp_build_g rfl _ _ rfl (.agg ZA) (by simp only [List.map_toArray, List.map_nil]; exact hbz _) ?_)
                    | fail)
                  go_wp2_with fail
                  go_ret
                  exact ⟨rfl, hb02⟩
              · have bzS : (S == 0) = false := beq_eq_false_iff_ne.2 zS
                obtain rfl : E = 100 := by rw [← HE.out]; exact fitE_v _ _ _ _ _ _ _ _ _ (by rw [fitsV_2 _ _ _ _ _ (by omega)]; exact decide_eq_false (by omega))
                go_wp2_with fail
                go_ret
                exact ⟨rfl, hb02⟩
            · have bzK : (K == 0) = false := beq_eq_false_iff_ne.2 zK
              obtain rfl : E = 100 := by rw [← HE.out]; exact fitE_v _ _ _ _ _ _ _ _ _ (by rw [fitsV_2 _ _ _ _ _ (by omega)]; exact decide_eq_false (by omega))
              go_wp2_with fail
              go_ret
              exact ⟨rfl, hb02⟩
        · have bzP : (P == 0) = false := beq_eq_false_iff_ne.2 zP
          go_upto_region 9 with fail
          by_cases zK : K = 0
          · subst zK
            by_cases zS : S = 0
            · subst zS
              by_cases zd : d = z32
              · rw [decide_eq_true zd] at heq
                obtain rfl : E = 100 := by rw [← HE.out]; exact fitE_v _ _ _ _ _ _ _ _ _ (by rw [fitsV_2 _ _ _ _ _ (by omega)]; exact decide_eq_false (by omega))
                go_upto_region 10 with (first
                  | (guard_target =~ wpList _ _ _ (Oper.mk (some 69) _ _ _ _ _ :: _) _ _; refine wpList_load_mid_g rfl 23 (.tmp 68) rfl g 7 rfl DL _ hs72 Tryd.underlying23 rfl hinfS ?_; rw [HDA.out])
                  | (guard_target =~ wpList _ _ _ (Oper.mk (some 70) _ _ _ _ _ :: _) _ _; refine wp_build_g rfl _ _ rfl (.agg ZA) (by simp only [List.map_toArray, List.map_nil]; exact hbz _) ?_)
                  | fail)
                go_wp2_with fail
                go_ret
                exact ⟨rfl, hb02⟩
              · rw [decide_eq_false zd] at heq
                obtain rfl : E = 100 := by rw [← HE.out]; exact fitE_v _ _ _ _ _ _ _ _ _ (by rw [fitsV_2 _ _ _ _ _ (by omega)]; exact decide_eq_false (by omega))
                go_upto_region 10 with (first
                  | (guard_target =~ wpList _ _ _ (Oper.mk (some 69) _ _ _ _ _ :: _) _ _; refine wpList_load_mid_g rfl 23 (.tmp 68) rfl g 7 rfl DL _ hs72 Tryd.underlying23 rfl hinfS ?_; rw [HDA.out])
                  | (guard_target =~ wpList _ _ _ (Oper.mk (some 70) _ _ _ _ _ :: _) _ _; refine wp_build_g rfl _ _ rfl (.agg ZA) (by simp only [List.map_toArray, List.map_nil]; exact hbz _) ?_)
                  | fail)
                go_wp2_with fail
                go_ret
                exact ⟨rfl, hb02⟩
            · have bzS : (S == 0) = false := beq_eq_false_iff_ne.2 zS
              obtain rfl : E = 100 := by rw [← HE.out]; exact fitE_v _ _ _ _ _ _ _ _ _ (by rw [fitsV_2 _ _ _ _ _ (by omega)]; exact decide_eq_false (by omega))
              go_wp2_with fail
              go_ret
              exact ⟨rfl, hb02⟩
          · have bzK : (K == 0) = false := beq_eq_false_iff_ne.2 zK
            obtain rfl : E = 100 := by rw [← HE.out]; exact fitE_v _ _ _ _ _ _ _ _ _ (by rw [fitsV_2 _ _ _ _ _ (by omega)]; exact decide_eq_false (by omega))
            go_wp2_with fail
            go_ret
            exact ⟨rfl, hb02⟩
      have n5 : (N == 5) = false := beq_eq_false_iff_ne.2 k5
      by_cases k6 : N = 6
      · subst k6
        exfalso; omega
      have n6 : (N == 6) = false := beq_eq_false_iff_ne.2 k6
      by_cases k3 : N = 3
      · subst k3
        exfalso; omega
      have n3 : (N == 3) = false := beq_eq_false_iff_ne.2 k3
      by_cases k4 : N = 4
      · subst k4
        exfalso; omega
      have n4 : (N == 4) = false := beq_eq_false_iff_ne.2 k4
      exfalso; omega
end Go.Proofs.YtbcgnacfhpahkaaDoor.rc
namespace Go.Proofs.YtbcgnacfhpahkaaDoor.rc
set_option maxRecDepth 20000
open Go.RowKit Mem OM LM DM
set_option linter.unusedVariables false
set_option linter.unusedSimpArgs false
attribute [local go_sem] Oper.semAt_some
set_option maxHeartbeats 40000000 in
theorem refFits_6 (N F P D I K S : Int) (d : List UInt8) (hd : d.length = 32) (A : Option Addr) (n c : Nat) (w : World) (hN : N = 6) : Calls Tryd.prog 16 #[.agg (noteL N F P D I K S d A n c).toArray] w fun e w' => e = .returned (.int .i64 (fitE N F P D I K S d n : Nat)) ∧ Below w.heap.size w w' := by
  have hr := dg.range_new w (noteL N F P D I K S d A n c) 28
  have hb : Below w.heap.size w (w.alloc (.cells (noteL N F P D I K S d A n c).toArray 28)) := (Below.refl _ _).alloc (Nat.le_refl _) _
  have hlt : w.heap.size < (w.alloc (.cells (noteL N F P D I K S d A n c).toArray 28)).heap.size := by simp
  have hinfN : (Tryd.prog.info? 28).map (·.size) = some (noteL N F P D I K S d A n c).length := by rw [noteL_len hd]; kernel_rfl
  have hr5 := note_rec hr
  have hs7 : (w.alloc (.cells (noteL N F P D I K S d A n c).toArray 28)).rangeAt w.heap.size 7 (bv d) := fun j v hj => by
    have hj2 : j < (bv d).length := (List.getElem?_eq_some_iff.1 hj).1
    have := hr5 (2 + j) v (by
      unfold recL
      rw [show 2 + j = j + 1 + 1 by omega, List.getElem?_cons_succ, List.getElem?_cons_succ, List.getElem?_append_left hj2]
      exact hj)
    rwa [show 5 + (2 + j) = 7 + j by omega] at this
  have c0 := hr 0 _ rfl
  have c2 := hr 2 _ rfl
  have c3 := hr 3 _ rfl
  have c4 := hr 4 _ rfl
  have c5 := hr 5 _ rfl
  have c6 := hr 6 _ rfl
  have c39 := hr5 34 _ (recL_34 hd)
  rw [show 5 + 34 = 39 from rfl] at c39
  simp only [Nat.zero_add] at c0 c2 c3 c4 c5 c6
  have hnm := fun y => refNumbers_any N F P D I K S d hd A n c y
  unfold NumPost at hnm
  have hck := fun y => refCheck_any K S d hd A n c y
  unfold refCheckPost at hck
  have hR35 := recL_len (K := K) (S := S) (A := A) (n := n) (c := c) hd
  have hinfR : (Tryd.prog.info? 26).map (·.size) = some (recL K S d A n c).length := by rw [hR35]; exact info_rec
  have hinfS : (Tryd.prog.info? 23).map (·.size) = some (bv d).length := by rw [bv_len, hd]; kernel_rfl
  have hbz := fun y => build_zsum y
  have heq := fun y => dg.sum_neq d z32 hd z32_len y
  obtain ⟨E, hE⟩ : ∃ z, fitE N F P D I K S d n = z := ⟨_, rfl⟩
  rw [hE]
  obtain ⟨NL, hNL⟩ : ∃ z, noteL N F P D I K S d A n c = z := ⟨_, rfl⟩
  rw [hNL] at hr hr5 hs7 c0 c2 c3 c4 c5 c6 c39 hinfN hb hlt ⊢
  simp only [hNL] at hnm
  obtain ⟨NA, hNA⟩ : ∃ z, NL.toArray = z := ⟨_, rfl⟩
  rw [hNA] at hr hr5 hs7 c0 c2 c3 c4 c5 c6 c39 hb hlt ⊢
  simp only [hNA] at hnm
  obtain ⟨RL, hRL⟩ : ∃ z, recL K S d A n c = z := ⟨_, rfl⟩
  rw [hRL] at hr5 hinfR
  simp only [hRL] at hck
  obtain ⟨RA, hRA⟩ : ∃ z, RL.toArray = z := ⟨_, rfl⟩
  simp only [hRA] at hck
  obtain ⟨ZA, hZA⟩ : ∃ z, (bv z32).toArray = z := ⟨_, rfl⟩
  obtain ⟨DL, hDL⟩ : ∃ z, bv d = z := ⟨_, rfl⟩
  rw [hDL] at hs7 hinfS
  obtain ⟨DA, hDA⟩ : ∃ z, DL.toArray = z := ⟨_, rfl⟩
  simp only [hZA, hDL, hDA] at hbz heq
  obtain ⟨l, hl⟩ : ∃ z, numL N F P D I = z := ⟨_, rfl⟩
  simp only [hl] at hnm
  obtain ⟨W, hW⟩ : ∃ z, w.alloc (.cells NA 28) = z := ⟨_, rfl⟩
  rw [hW] at hr hr5 hs7 c0 c2 c3 c4 c5 c6 c39 hb hlt
  obtain ⟨g, hg⟩ : ∃ z, w.heap.size = z := ⟨_, rfl⟩
  rw [hg] at hr hr5 hs7 c0 c2 c3 c4 c5 c6 c39 hb hlt ⊢
  have HE := Lib.hid hE
  have HL := Lib.hid hl
  have HNA := Lib.hid hNA
  have HRA := Lib.hid hRA
  have HDA := Lib.hid hDA
  have HNM := Lib.hid hnm
  clear hE hl hNL hNA hRL hRA hZA hDL hDA hnm hR35
  go_enter Tryd.func16, Tryd.ntmps16
  go_upto_region 1 with fail
  try rw [hW]
  try rw [hg]
  go_upto_region 2 with (first
    | (refine wpList_load_mid rfl 28 (.tmp 1) rfl g 0 rfl NL _ hr Tryd.underlying28 rfl hinfN ?_; rw [HNA.out])
    | (go_at_call 35; refine (HNM.out _).mono ?_; rintro e w2 ⟨A1, rfl, hA0, hA1, hrd, hb2⟩)
    | fail)
  have hb02 : Below g w w2 := hb.trans (hb2.mono (Nat.le_of_lt hlt))
  have hr52 := dg.range_below hr5 hb2 hlt
  have hs72 := dg.range_below hs7 hb2 hlt
  have e0 := (hb2.cell (p := ⟨g, 0, none⟩) hlt).trans c0
  have e2 := (hb2.cell (p := ⟨g, 2, none⟩) hlt).trans c2
  have e3 := (hb2.cell (p := ⟨g, 3, none⟩) hlt).trans c3
  have e4 := (hb2.cell (p := ⟨g, 4, none⟩) hlt).trans c4
  have e5 := (hb2.cell (p := ⟨g, 5, none⟩) hlt).trans c5
  have e6 := (hb2.cell (p := ⟨g, 6, none⟩) hlt).trans c6
  have e39 := (hb2.cell (p := ⟨g, 39, none⟩) hlt).trans c39
  clear hr hr5 hs7 c0 c2 c3 c4 c5 c6 c39 HNM hb hb2 hlt hW
  have hnil := fun (y : World) (a : Option Addr) (n c : Nat) => Lib.run_eql_slice_nil y _ _ a n c 0 0 Tryd.underlying60
  have H2 := Lib.hid (And.intro hA0 (And.intro hA1 hrd))
  clear hA0 hA1 hrd
  go_wp2_with fail
  have hlen : l.length ≤ 3 := by
    rw [← HL.out]; clear hN; unfold numL
    split
    · simp
    · split
      · simp
      · split <;> simp
  go_loopw [12] (fun i wr => ∃ (k : Nat), i = .int .i64 (k : Int) ∧ k ≤ l.length ∧ Hid (∀ j (h : j < l.length), j < k → 1 ≤ l[j] ∧ l[j] ≤ 1073741824) ∧ w2 = wr) (fun i _ => l.length - (intOf i).toNat)
  case atStart => exact ⟨0, rfl, Nat.zero_le _, Lib.hid (fun j h hj => by omega), rfl⟩
  case round =>
    obtain ⟨k, rfl, hk2, HQ, rfl⟩ := hrel
    by_cases hkn : k < l.length
    · have hki : (k : Int) < (l.length : Int) := by omega
      obtain ⟨b, off, rfl, hB, hcell⟩ := H2.out.2.2.at_ hkn
      have hce : w2.cell? ⟨b, off + k, none⟩ = some (.int .i64 l[k]) := hcell.trans (by simp [nv, hkn])
      obtain ⟨x, hx⟩ : ∃ z, l[k] = z := ⟨_, rfl⟩
      rw [hx] at hce
      have hmem : x ∈ l := by rw [← hx]; exact List.getElem_mem hkn
      clear hcell
      by_cases x1 : x < 1
      · obtain rfl : E = 100 := by rw [← HE.out]; exact fitE_bad _ _ _ _ _ _ _ _ _ x (by rw [HL.out]; exact hmem) (Or.inl x1)
        go_wp2_with fail
        go_ret
        exact ⟨rfl, hb02⟩
      · by_cases x2 : 1073741824 < x
        · obtain rfl : E = 100 := by rw [← HE.out]; exact fitE_bad _ _ _ _ _ _ _ _ _ x (by rw [HL.out]; exact hmem) (Or.inr x2)
          go_wp2_with fail
          go_ret
          exact ⟨rfl, hb02⟩
        · go_wp2_with fail
          exact ⟨⟨k + 1, by go_num, by omega, Lib.hid (fun j h hj => by
            rcases Nat.lt_or_ge j k with hjk | hjk
            · exact HQ.out j h hjk
            · obtain rfl : j = k := by omega
              rw [hx]; omega), trivial⟩, by simp [intOf]; omega⟩
    · obtain rfl : k = l.length := by omega
      have hkn2 : ¬ ((l.length : Nat) : Int) < (l.length : Int) := by omega
      have hq := HQ.out
      clear HQ
      by_cases k1 : N = 1
      · subst k1
        exfalso; omega
      have n1 : (N == 1) = false := beq_eq_false_iff_ne.2 k1
      by_cases k2 : N = 2
      · subst k2
        exfalso; omega
      have n2 : (N == 2) = false := beq_eq_false_iff_ne.2 k2
      by_cases k5 : N = 5
      · subst k5
        exfalso; omega
      have n5 : (N == 5) = false := beq_eq_false_iff_ne.2 k5
      by_cases k6 : N = 6
      · subst k6
        obtain rfl : l = [F, I] := by rw [← HL.out]; rfl
        have hF : 1 ≤ F ∧ F ≤ 1073741824 := hq 0 (by simp) (by simp)
        have hI : 1 ≤ I ∧ I ≤ 1073741824 := hq 1 (by simp) (by simp)
        obtain ⟨b, hbA, _, _⟩ := H2.out.2.1 (by simp)
        subst hbA
        clear H2 HL hq
        by_cases zP : P = 0
        · subst zP
          by_cases zD : D = 0
          · subst zD
            go_upto_region 9 with fail
            by_cases zK : K = 0
            · subst zK
              by_cases zS : S = 0
              · subst zS
                by_cases zd : d = z32
                · rw [decide_eq_true zd] at heq
                  by_cases zn : n = 0
                  · subst zn
                    obtain rfl : E = 0 := by rw [← HE.out]; exact fitE_vn _ _ _ _ _ _ _ _ _ (by rw [fitsV_2 _ _ _ _ _ (by omega)]; exact decide_eq_true (by omega)) (by rw [fitsN_o _ _ _ _ _ (by omega)]; exact decide_eq_true ⟨rfl, rfl, zd, rfl⟩)
                    go_upto_region 10 with (first
                      | (guard_target =~ wpList _ _ _ (Oper.mk (some 69) _ _ _ _ _ :: _) _ _; refine wpList_load_mid_g rfl 23 (.tmp 68) rfl g 7 rfl DL _ hs72 Tryd.underlying23 rfl hinfS ?_; rw [HDA.out])
                      | (guard_target =~ wpList _ _ _ (Oper.mk (some 70) _ _ _ _ _ :: _) _ _; refine wp_build_g rfl _ _ rfl (.agg ZA) (by simp only [List.map_toArray, List.map_nil]; exact hbz _) ?_)
                      | fail)
                    go_wp2_with fail
                    go_ret
                    exact ⟨rfl, hb02⟩
                  · have pn : (0 : Int) < (n : Int) := by omega
                    obtain rfl : E = 100 := by rw [← HE.out]; exact fitE_n _ _ _ _ _ _ _ _ _ (by rw [fitsN_o _ _ _ _ _ (by omega)]; exact decide_eq_false (fun q => by first | exact zK q.1 | exact zS q.2.1 | exact zd q.2.2.1 | exact zn q.2.2.2))
                    go_upto_region 10 with (first
                      | (guard_target =~ wpList _ _ _ (Oper.mk (some 69) _ _ _ _ _ :: _) _ _; refine wpList_load_mid_g rfl 23 (.tmp 68) rfl g 7 rfl DL _ hs72 Tryd.underlying23 rfl hinfS ?_; rw [HDA.out])
                      | (guard_target =~ wpList _ _ _ (Oper.mk (some 70) _ _ _ _ _ :: _) _ _; refine wp_build_g rfl _ _ rfl (.agg ZA) (by simp only [List.map_toArray, List.map_nil]; exact hbz _) ?_)
                      | fail)
                    go_wp2_with fail
                    go_ret
                    exact ⟨rfl, hb02⟩
                · rw [decide_eq_false zd] at heq
                  obtain rfl : E = 100 := by rw [← HE.out]; exact fitE_n _ _ _ _ _ _ _ _ _ (by rw [fitsN_o _ _ _ _ _ (by omega)]; exact decide_eq_false (fun q => by first | exact zK q.1 | exact zS q.2.1 | exact zd q.2.2.1 | exact zn q.2.2.2))
                  go_upto_region 10 with (first
                    | (guard_target =~ wpList _ _ _ (Oper.mk (some 69) _ _ _ _ _ :: _) _ _; refine wpList_load_mid_g rfl 23 (.tmp 68) rfl g 7 rfl DL _ hs72 Tryd.underlying23 rfl hinfS ?_; rw [HDA.out])
                    | (guard_target =~ wpList _ _ _ (Oper.mk (some 70) _ _ _ _ _ :: _) _ _; refine wp_build_g rfl _ _ rfl (.agg ZA) (by simp only [List.map_toArray, List.map_nil]; exact hbz _) ?_)
                    | fail)
                  go_wp2_with fail
                  go_ret
                  exact ⟨rfl, hb02⟩
              · have bzS : (S == 0) = false := beq_eq_false_iff_ne.2 zS
                obtain rfl : E = 100 := by rw [← HE.out]; exact fitE_n _ _ _ _ _ _ _ _ _ (by rw [fitsN_o _ _ _ _ _ (by omega)]; exact decide_eq_false (fun q => by first | exact zK q.1 | exact zS q.2.1 | exact zd q.2.2.1 | exact zn q.2.2.2))
                go_wp2_with fail
                go_ret
                exact ⟨rfl, hb02⟩
            · have bzK : (K == 0) = false := beq_eq_false_iff_ne.2 zK
              obtain rfl : E = 100 := by rw [← HE.out]; exact fitE_n _ _ _ _ _ _ _ _ _ (by rw [fitsN_o _ _ _ _ _ (by omega)]; exact decide_eq_false (fun q => by first | exact zK q.1 | exact zS q.2.1 | exact zd q.2.2.1 | exact zn q.2.2.2))
              go_wp2_with fail
              go_ret
              exact ⟨rfl, hb02⟩
          · have bzD : (D == 0) = false := beq_eq_false_iff_ne.2 zD
            go_upto_region 9 with fail
            by_cases zK : K = 0
            · subst zK
              by_cases zS : S = 0
              · subst zS
                by_cases zd : d = z32
                · rw [decide_eq_true zd] at heq
                  obtain rfl : E = 100 := by rw [← HE.out]; exact fitE_v _ _ _ _ _ _ _ _ _ (by rw [fitsV_2 _ _ _ _ _ (by omega)]; exact decide_eq_false (by omega))
                  go_upto_region 10 with (first
                    | (guard_target =~ wpList _ _ _ (Oper.mk (some 69) _ _ _ _ _ :: _) _ _; refine wpList_load_mid_g rfl 23 (.tmp 68) rfl g 7 rfl DL _ hs72 Tryd.underlying23 rfl hinfS ?_; rw [HDA.out])
                    | (guard_target =~ wpList _ _ _ (Oper.mk (some 70) _ _ _ _ _ :: _) _ _; refine wp_build_g rfl _ _ rfl (.agg ZA) (by simp only [List.map_toArray, List.map_nil]; exact hbz _) ?_)
                    | fail)
                  go_wp2_with fail
                  go_ret
                  exact ⟨rfl, hb02⟩
                · rw [decide_eq_false zd] at heq
                  obtain rfl : E = 100 := by rw [← HE.out]; exact fitE_v _ _ _ _ _ _ _ _ _ (by rw [fitsV_2 _ _ _ _ _ (by omega)]; exact decide_eq_false (by omega))
                  go_upto_region 10 with (first
                    | (guard_target =~ wpList _ _ _ (Oper.mk (some 69) _ _ _ _ _ :: _) _ _; refine wpList_load_mid_g rfl 23 (.tmp 68) rfl g 7 rfl DL _ hs72 Tryd.underlying23 rfl hinfS ?_; rw [HDA.out])
                    | (guard_target =~ wpList _ _ _ (Oper.mk (some 70) _ _ _ _ _ :: _) _ _; refine wp_build_g rfl _ _ rfl (.agg ZA) (by simp only [List.map_toArray, List.map_nil]; exact hbz _) ?_)
                    | fail)
                  go_wp2_with fail
                  go_ret
                  exact ⟨rfl, hb02⟩
              · have bzS : (S == 0) = false := beq_eq_false_iff_ne.2 zS
                obtain rfl : E = 100 := by rw [← HE.out]; exact fitE_v _ _ _ _ _ _ _ _ _ (by rw [fitsV_2 _ _ _ _ _ (by omega)]; exact decide_eq_false (by omega))
                go_wp2_with fail
                go_ret
                exact ⟨rfl, hb02⟩
            · have bzK : (K == 0) = false := beq_eq_false_iff_ne.2 zK
              obtain rfl : E = 100 := by rw [← HE.out]; exact fitE_v _ _ _ _ _ _ _ _ _ (by rw [fitsV_2 _ _ _ _ _ (by omega)]; exact decide_eq_false (by omega))
              go_wp2_with fail
              go_ret
              exact ⟨rfl, hb02⟩
        · have bzP : (P == 0) = false := beq_eq_false_iff_ne.2 zP
          go_upto_region 9 with fail
          by_cases zK : K = 0
          · subst zK
            by_cases zS : S = 0
            · subst zS
              by_cases zd : d = z32
              · rw [decide_eq_true zd] at heq
                obtain rfl : E = 100 := by rw [← HE.out]; exact fitE_v _ _ _ _ _ _ _ _ _ (by rw [fitsV_2 _ _ _ _ _ (by omega)]; exact decide_eq_false (by omega))
                go_upto_region 10 with (first
                  | (guard_target =~ wpList _ _ _ (Oper.mk (some 69) _ _ _ _ _ :: _) _ _; refine wpList_load_mid_g rfl 23 (.tmp 68) rfl g 7 rfl DL _ hs72 Tryd.underlying23 rfl hinfS ?_; rw [HDA.out])
                  | (guard_target =~ wpList _ _ _ (Oper.mk (some 70) _ _ _ _ _ :: _) _ _; refine wp_build_g rfl _ _ rfl (.agg ZA) (by simp only [List.map_toArray, List.map_nil]; exact hbz _) ?_)
                  | fail)
                go_wp2_with fail
                go_ret
                exact ⟨rfl, hb02⟩
              · rw [decide_eq_false zd] at heq
                obtain rfl : E = 100 := by rw [← HE.out]; exact fitE_v _ _ _ _ _ _ _ _ _ (by rw [fitsV_2 _ _ _ _ _ (by omega)]; exact decide_eq_false (by omega))
                go_upto_region 10 with (first
                  | (guard_target =~ wpList _ _ _ (Oper.mk (some 69) _ _ _ _ _ :: _) _ _; refine wpList_load_mid_g rfl 23 (.tmp 68) rfl g 7 rfl DL _ hs72 Tryd.underlying23 rfl hinfS ?_; rw [HDA.out])
                  | (guard_target =~ wpList _ _ _ (Oper.mk (some 70) _ _ _ _ _ :: _) _ _; refine wp_build_g rfl _ _ rfl (.agg ZA) (by simp only [List.map_toArray, List.map_nil]; exact hbz _) ?_)
                  | fail)
                go_wp2_with fail
                go_ret
                exact ⟨rfl, hb02⟩
            · have bzS : (S == 0) = false := beq_eq_false_iff_ne.2 zS
              obtain rfl : E = 100 := by rw [← HE.out]; exact fitE_v _ _ _ _ _ _ _ _ _ (by rw [fitsV_2 _ _ _ _ _ (by omega)]; exact decide_eq_false (by omega))
              go_wp2_with fail
              go_ret
              exact ⟨rfl, hb02⟩
          · have bzK : (K == 0) = false := beq_eq_false_iff_ne.2 zK
            obtain rfl : E = 100 := by rw [← HE.out]; exact fitE_v _ _ _ _ _ _ _ _ _ (by rw [fitsV_2 _ _ _ _ _ (by omega)]; exact decide_eq_false (by omega))
            go_wp2_with fail
            go_ret
            exact ⟨rfl, hb02⟩
      have n6 : (N == 6) = false := beq_eq_false_iff_ne.2 k6
      by_cases k3 : N = 3
      · subst k3
        exfalso; omega
      have n3 : (N == 3) = false := beq_eq_false_iff_ne.2 k3
      by_cases k4 : N = 4
      · subst k4
        exfalso; omega
      have n4 : (N == 4) = false := beq_eq_false_iff_ne.2 k4
      exfalso; omega
end Go.Proofs.YtbcgnacfhpahkaaDoor.rc
