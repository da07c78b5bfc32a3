/- The document's longest stretch, and bytes as they are. -/
import Derived.Test.YtnikecjkaciplaaLzL
import Derived.Test.YtnikecjkaciplaaLzMath4
namespace Go.Proofs.Ytnikecjkaciplaa.lz
open Go.RowKit Mem OM LM oct
set_option linter.unusedVariables false
attribute [local go_sem] Oper.semAt_some
theorem ali_is (B : List UInt8) (e bk j : Nat) (hb : bk ≤ e) (h1 : 1 ≤ bk) (he : e < B.length) (hj : j ≤ min 66 (B.length - e)) (h : ∀ q, q < j → B[e - bk + q]? = B[e + q]?) (h2 : j = min 66 (B.length - e) ∨ (j < 66 ∧ e + j < B.length ∧ B[e - bk + j]? ≠ B[e + j]?)) : ali B e bk = j := by
  unfold ali
  refine com_eq _ _ j (by rw [List.length_drop]; omega) (by rw [nxt_len]; exact hj) (fun i hi => ?_) ?_
  · rw [List.getElem?_drop, nxt_at B e i (by omega)]
    exact h i hi
  · rcases h2 with h2 | ⟨h3, h4, h5⟩
    · exact Or.inl (by rw [nxt_len]; exact h2)
    · exact Or.inr ⟨by rw [List.length_drop]; omega, by rw [nxt_len]; omega, by rw [List.getElem?_drop, nxt_at B e j h3]; exact h5⟩
set_option maxRecDepth 50000 in
set_option maxHeartbeats 8000000 in
theorem refLongest_any (A : Option Addr) (n c C e : Nat) (B : List UInt8) (w : World) (hr : Rd w C A n (bv B)) (he : e < n) (hn : n ≤ 1048576) :
    Calls Try.prog 26 #[.slice A n c, .int .i64 (e : Nat)] w fun en w' => en = .returned (.tuple #[.int .i64 ((best B e (min 512 e)).2 : Nat), .int .i64 ((best B e (min 512 e)).1 : Nat)]) ∧ Below w.heap.size w w' := by
  have hl : B.length = n := by rw [← hr.len, bv_len]
  obtain ⟨g, off, rfl, hg, hcell⟩ := hr.addr (by omega)
  have hcs : ∀ i, (h : i < n) → w.cell? ⟨g, off + i, none⟩ = some (.int .u8 ((B[i]'(by omega)).toNat : Int)) := fun i h => by
    rw [hcell i h, bv_at B i (by omega)]
  have hgl : g < w.heap.size := cell_lt (hcs 0 (by omega))
  have HC : Hid (∀ y, Below w.heap.size w y → ∀ i, (h : i < n) → y.cell? ⟨g, off + i, none⟩ = some (.int .u8 ((B[i]'(by omega)).toNat : Int))) := Lib.hid (fun y hy i h => (hy.cell (p := ⟨g, off + i, none⟩) hgl).trans (hcs i h))
  have HL := Lib.hid hl
  clear hr hcell hcs hg hgl
  go_enter Try.func26, Try.ntmps26
  go_wp2_with fail
  go_loopw [6, 7, 8] (fun f7 l8 b9 wr => ∃ k : Nat, f7 = .int .i64 ((best B e k).2 : Nat) ∧ l8 = .int .i64 ((best B e k).1 : Nat) ∧ b9 = .int .i64 ((k + 1 : Nat) : Int) ∧ k ≤ min 512 e ∧ Hid (Below w.heap.size w wr)) (fun _ _ b9 _ => 600 - (intOf b9).toNat)
  case atStart => exact ⟨0, rfl, rfl, rfl, Nat.zero_le _, Lib.hid (Below.refl _ _)⟩
  case round =>
    obtain ⟨k, rfl, rfl, rfl, hk, HQ⟩ := hrel
    have hbl := best_len B e k
    have hbb := (best_back B e k).1
    rw [nxt_len] at hbl
    obtain ⟨L, hL⟩ : ∃ L, (best B e k).1 = L := ⟨_, rfl⟩
    obtain ⟨F, hF⟩ : ∃ F, (best B e k).2 = F := ⟨_, rfl⟩
    have HB := Lib.hid (And.intro hL hF)
    rw [hL] at hbl
    rw [hF] at hbb
    rw [hL, hF]
    clear hL hF
    by_cases h512 : k + 1 ≤ 512
    · have h5i : ((k + 1 : Nat) : Int) ≤ 512 := by omega
      by_cases hke : k + 1 ≤ e
      · have hki : ((k + 1 : Nat) : Int) ≤ (e : Int) := by omega
        obtain ⟨bk, hbk⟩ : ∃ bk, k + 1 = bk := ⟨_, rfl⟩
        have HBK := Lib.hid hbk
        rw [hbk] at h5i hki h512 hke ⊢
        clear hbk
        go_wp2_with fail
        go_loopw [9, 19, 20, 21, 22, 23, 24, 25, 26, 27, 28, 29, 30, 31, 32, 33, 34, 35, 36, 37, 38, 39, 40, 41, 42, 43, 44, 45, 46, 47] (fun n9 _ _ _ _ _ _ _ _ _ _ _ _ _ _ _ _ _ _ _ _ _ _ _ _ _ _ _ _ _ wx => ∃ j : Nat, n9 = .int .i64 (j : Nat) ∧ j ≤ min 66 (n - e) ∧ Hid (∀ q, q < j → B[e - bk + q]? = B[e + q]?) ∧ Hid (Below w.heap.size w wx)) (fun n9 _ _ _ _ _ _ _ _ _ _ _ _ _ _ _ _ _ _ _ _ _ _ _ _ _ _ _ _ _ _ => 70 - (intOf n9).toNat)
        case atStart => exact ⟨0, rfl, Nat.zero_le _, Lib.hid (fun q hq => by omega), HQ⟩
        case round =>
          clear HQ
          obtain ⟨j, rfl, hj, HJ, HQ⟩ := hrel
          obtain ⟨E1, hE1⟩ : ∃ E1, e + j = E1 := ⟨_, rfl⟩
          have hE1i : (e : Int) + (j : Int) = (E1 : Int) := by omega
          by_cases h66 : j < 66
          · have h6i : (j : Int) < 66 := by omega
            by_cases hEn : E1 < n
            · have hEi : (E1 : Int) < (n : Int) := by omega
              have hE0 : (0 : Int) ≤ (E1 : Int) := by omega
              obtain ⟨E3, hE3⟩ : ∃ E3, e - bk = E3 := ⟨_, rfl⟩
              have hE3i : (e : Int) - (bk : Int) = (E3 : Int) := by omega
              obtain ⟨E2, hE2⟩ : ∃ E2, E3 + j = E2 := ⟨_, rfl⟩
              have hE2i : (E3 : Int) + (j : Int) = (E2 : Int) := by omega
              have hE2n : (E2 : Int) < (n : Int) := by omega
              have hE20 : (0 : Int) ≤ (E2 : Int) := by omega
              have c1 := HC.out _ HQ.out E1 hEn
              have c2 := HC.out _ HQ.out E2 (by omega)
              have g1 : B[E1]? = some (B[E1]'(by omega)) := List.getElem?_eq_getElem _
              have g2 : B[E2]? = some (B[E2]'(by omega)) := List.getElem?_eq_getElem _
              generalize B[E1]'(by omega) = x1 at *
              generalize B[E2]'(by omega) = x2 at *
              have HG := Lib.hid (And.intro g1 (And.intro g2 (And.intro hE1 (And.intro hE2 hE3))))
              clear g1 g2 hE1 hE2 hE3
              by_cases hx : x1 = x2
              · subst hx
                go_wp2_with fail
                refine wp_region_quiet_lit (by kernel_rfl) (by kernel_rfl) ?_
                repeat (go_big_quiet_step (fail))
                refine wpQuiet_nil ?_
                rintro _ ⟨nq, rfl⟩
                have HQ2 := Lib.hid (below_drewN HQ.out nq)
                generalize wr.drewN nq = wr2 at *
                go_wp2_with fail
                go_roundw
                case rel => exact ⟨j + 1, by go_num, by omega, Lib.hid (fun q hq => by
                  rcases Nat.lt_or_ge q j with h | h
                  · exact HJ.out q h
                  · obtain rfl : q = j := by omega
                    obtain ⟨g1, g2, g3, g4, g5⟩ := HG.out
                    rw [g3, g5, g4, g1, g2]), HQ2⟩
                case measure => simp only [intOf]; omega
              · have hxi : ¬ ((x1.toNat : Int) = (x2.toNat : Int)) := fun e => hx (UInt8.toNat_inj.1 (by omega))
                have hali : ali B e bk = j := ali_is B e bk j hke (by have := HBK.out; omega) (by have := HL.out; omega) (by have := HL.out; omega) HJ.out (Or.inr ⟨h66, by have := HL.out; have := HG.out; omega, by obtain ⟨g1, g2, g3, g4, g5⟩ := HG.out; rw [g3, g5, g4, g1, g2]; exact fun e => hx (by injection e with e; exact e.symm)⟩)
                have hbs : best B e (k + 1) = if (best B e k).1 < ali B e (k + 1) then (ali B e (k + 1), k + 1) else best B e k := rfl
                rw [HBK.out, hali, HB.out.1] at hbs
                have HBS := Lib.hid hbs
                clear hbs hali
                go_wp2_with fail
                refine wp_region_quiet_lit (by kernel_rfl) (by kernel_rfl) ?_
                repeat (go_big_quiet_step (fail))
                refine wpQuiet_nil ?_
                rintro _ ⟨nq, rfl⟩
                have HQ2 := Lib.hid (below_drewN HQ.out nq)
                generalize wr.drewN nq = wr2 at *
                by_cases hLj : L < j
                · have hLi : (L : Int) < (j : Int) := by omega
                  go_wp2_with fail
                  go_roundw
                  case rel => exact ⟨bk, by rw [HBS.out, if_pos hLj], by rw [HBS.out, if_pos hLj], by go_num, by have := HBK.out; omega, HQ2⟩
                  case measure => simp only [intOf]; omega
                · have hLi : ¬ (L : Int) < (j : Int) := by omega
                  go_wp2_with fail
                  go_roundw
                  case rel => exact ⟨bk, by rw [HBS.out, if_neg hLj, HB.out.2], by rw [HBS.out, if_neg hLj, HB.out.1], by go_num, by have := HBK.out; omega, HQ2⟩
                  case measure => simp only [intOf]; omega
            · have hEi : ¬ (E1 : Int) < (n : Int) := by omega
              have hali : ali B e bk = j := ali_is B e bk j hke (by have := HBK.out; omega) (by have := HL.out; omega) (by have := HL.out; omega) HJ.out (Or.inl (by have := HL.out; omega))
              have hbs : best B e (k + 1) = if (best B e k).1 < ali B e (k + 1) then (ali B e (k + 1), k + 1) else best B e k := rfl
              rw [HBK.out, hali, HB.out.1] at hbs
              have HBS := Lib.hid hbs
              clear hbs hali
              go_wp2_with fail
              refine wp_region_quiet_lit (by kernel_rfl) (by kernel_rfl) ?_
              repeat (go_big_quiet_step (fail))
              refine wpQuiet_nil ?_
              rintro _ ⟨nq, rfl⟩
              have HQ2 := Lib.hid (below_drewN HQ.out nq)
              generalize wr.drewN nq = wr2 at *
              by_cases hLj : L < j
              · have hLi : (L : Int) < (j : Int) := by omega
                go_wp2_with fail
                go_roundw
                case rel => exact ⟨bk, by rw [HBS.out, if_pos hLj], by rw [HBS.out, if_pos hLj], by go_num, by have := HBK.out; omega, HQ2⟩
                case measure => simp only [intOf]; omega
              · have hLi : ¬ (L : Int) < (j : Int) := by omega
                go_wp2_with fail
                go_roundw
                case rel => exact ⟨bk, by rw [HBS.out, if_neg hLj, HB.out.2], by rw [HBS.out, if_neg hLj, HB.out.1], by go_num, by have := HBK.out; omega, HQ2⟩
                case measure => simp only [intOf]; omega
          · obtain rfl : j = 66 := by omega
            have hali : ali B e bk = 66 := ali_is B e bk 66 hke (by have := HBK.out; omega) (by have := HL.out; omega) (by have := HL.out; omega) HJ.out (Or.inl (by have := HL.out; omega))
            have hbs : best B e (k + 1) = if (best B e k).1 < ali B e (k + 1) then (ali B e (k + 1), k + 1) else best B e k := rfl
            rw [HBK.out, hali, HB.out.1] at hbs
            have HBS := Lib.hid hbs
            clear hbs hali
            go_wp2_with fail
            refine wp_region_quiet_lit (by kernel_rfl) (by kernel_rfl) ?_
            repeat (go_big_quiet_step (fail))
            refine wpQuiet_nil ?_
            rintro _ ⟨nq, rfl⟩
            have HQ2 := Lib.hid (below_drewN HQ.out nq)
            generalize wr.drewN nq = wr2 at *
            by_cases hLj : L < 66
            · have hLi : (L : Int) < 66 := by omega
              go_wp2_with fail
              go_roundw
              case rel => exact ⟨bk, by rw [HBS.out, if_pos hLj], by rw [HBS.out, if_pos hLj], by go_num, by have := HBK.out; omega, HQ2⟩
              case measure => simp only [intOf]; omega
            · have hLi : ¬ (L : Int) < 66 := by omega
              go_wp2_with fail
              go_roundw
              case rel => exact ⟨bk, by rw [HBS.out, if_neg hLj, HB.out.2], by rw [HBS.out, if_neg hLj, HB.out.1], by go_num, by have := HBK.out; omega, HQ2⟩
              case measure => simp only [intOf]; omega
      · have hki : ¬ ((k + 1 : Nat) : Int) ≤ (e : Int) := by omega
        have hkm : min 512 e = k := by omega
        have HM := Lib.hid hkm
        clear hkm
        go_wp2_with fail
        go_ret2
        rw [HM.out, HB.out.1, HB.out.2]
        exact ⟨rfl, HQ.out⟩
    · have h5i : ¬ ((k + 1 : Nat) : Int) ≤ 512 := by omega
      have hkm : min 512 e = k := by omega
      have HM := Lib.hid hkm
      clear hkm
      go_wp2_with fail
      go_ret2
      rw [HM.out, HB.out.1, HB.out.2]
      exact ⟨rfl, HQ.out⟩
end Go.Proofs.Ytnikecjkaciplaa.lz
