/- RecordBack: for every input the law answers true and leaves its arguments as they were; the table that the program lays is tied to its text. -/
import Derived.Test.YtmdaglcpnakjhaaDoorRcO
import Derived.Test.YtmdaglcpnakjhaaDoorLzMath4
namespace Go.Proofs.YtmdaglcpnakjhaaDoor.recordBackDone
open Go.RowKit Mem OM LM DM dg rc
set_option maxRecDepth 20000
set_option linter.unusedSimpArgs false
attribute [local go_sem] Oper.semAt_some
theorem mkD_le (l : List UInt8) : (mkD l).length ≤ l.length := by
  unfold mkD; split
  · omega
  · exact Nat.le_refl _
theorem open_made (l : List UInt8) (h1 : 1 ≤ l.length) (h2 : l.length ≤ 256) : openR (mkK l) (l.length : Nat) (digest l) (mkD l) = (l, 0) := by
  by_cases hs : (shB l).length < l.length
  · rw [mkK_lt l hs, mkD_lt l hs]
    have hc : chk 3 (l.length : Nat) (shB l).length = 0 := by
      unfold chk fitsR fitsS fitsD
      simp
      omega
    unfold openR
    rw [if_neg (by omega), if_neg (by omega)]
    rw [show carR 3 (l.length : Nat) (shB l) = (l, 0) by
      unfold carR
      rw [if_neg (by omega), back_ok]
      simp]
    simp
  · rw [mkK_ge l hs, mkD_ge l hs]
    exact openR_lit _ l h1 h2 rfl
theorem open_known (n : Nat) (h1 : 1 ≤ n) (h2 : n ≤ 256) (d : List UInt8) : openR 1 (n : Nat) d [] = ([], 110) := by
  have hc : chk 1 (n : Nat) ([] : List UInt8).length = 0 := by
    unfold chk fitsR fitsS fitsD
    simp
    omega
  unfold openR
  rw [if_neg (by omega), if_pos rfl]
set_option maxHeartbeats 8000000 in
theorem walk (A : Option Addr) (n c : Nat) (l : List UInt8) (w : World) (hT : Tab w) (hr : Rd w w.heap.size A n (bv l)) (hc : n ≤ c) (hn : n ≤ 9223372036854775807) :
    Calls Tryd.prog 8 #[.slice A n c] w fun e w' => e = .returned (.bool true) ∧ Below w.heap.size w w' := by
  have hl : l.length = n := by rw [← hr.len, bv_len]
  have HT := Lib.hid hT
  clear hT
  by_cases hbig : 4096 < n
  · have h1i : (4096 : Int) < n := by omega
    go_enter Tryd.func8, Tryd.ntmps8
    go_wp2_with (go_at_call 12; refine (rc.awake_any _ HT.out).mono ?_; rintro e w1 ⟨rfl, hb1⟩)
    go_ret
    exact ⟨rfl, hb1⟩
  have hbi : ¬ (4096 : Int) < n := by omega
  by_cases hfit : 1 ≤ n ∧ n ≤ 256
  case neg =>
    have hfs : fitsS (n : Nat) = false := decide_eq_false (by omega)
    have hmk := fun y k => (make_bad A n c k y hfs).mono fun _ _ h => h.v
    unfold MadeV at hmk
    have hd := z32_len
    have HMK := Lib.hid hmk
    clear hmk
    rcases Nat.lt_or_ge n 1 with hlo | hlo
    · have h1i : (n : Int) < 1 := by omega
      go_enter Tryd.func8, Tryd.ntmps8
      go_upto_region 4 with (first
        | (go_at_call 18; refine (HMK.out _ _).mono ?_; rintro e w1 ⟨RA, A1, n1, c1, rfl, HRA, ho1, hb1⟩; have hsz := va_size hd HRA; have hon := va_one HRA)
        | (refine wpList_store_mid rfl 26 (.tmp 3) (.tmp 18) rfl w1.heap.size 0 RA rfl rfl (by rw [hsz]; exact rec_zero_there w1) (by rw [hsz]; exact info_rec) hon ?_)
        | fail)
      show Code.wp _ _ _ _ ((w1.alloc (.cells recZ.toArray 26)).setCells w1.heap.size 0 RA.toList)
      have hst := rec_stored (K := 0) (S := 0) (A := A1) (n := n1) (c := c1) hd w1
      rw [show RA.toList = recL 0 0 z32 A1 n1 c1 by rw [HRA.out]]
      obtain ⟨w2, hw2⟩ : ∃ z, (w1.alloc (.cells recZ.toArray 26)).setCells w1.heap.size 0 (recL 0 0 z32 A1 n1 c1) = z := ⟨_, rfl⟩
      rw [hw2] at hst ⊢
      have hb02 : Below w.heap.size w w2 := hb1.trans (hst.2.2.1.mono hb1.size)
      clear hst hw2 ho1 HRA hsz hon hb1
      go_upto_region 5 with (first
        | (go_at_call 18; refine (HMK.out _ _).mono ?_; rintro e w3 ⟨RA3, A3, n3, c3, rfl, HRA3, ho3, hb3⟩; have hsz3 := va_size hd HRA3; have hon3 := va_one HRA3)
        | (refine wpList_store_mid rfl 26 (.tmp 5) (.tmp 23) rfl w3.heap.size 0 RA3 rfl rfl (by rw [hsz3]; exact rec_zero_there w3) (by rw [hsz3]; exact info_rec) hon3 ?_)
        | fail)
      show Code.wp _ _ _ _ ((w3.alloc (.cells recZ.toArray 26)).setCells w3.heap.size 0 RA3.toList)
      have hst := rec_stored (K := 0) (S := 0) (A := A3) (n := n3) (c := c3) hd w3
      rw [show RA3.toList = recL 0 0 z32 A3 n3 c3 by rw [HRA3.out]]
      obtain ⟨w4, hw4⟩ : ∃ z, (w3.alloc (.cells recZ.toArray 26)).setCells w3.heap.size 0 (recL 0 0 z32 A3 n3 c3) = z := ⟨_, rfl⟩
      rw [hw4] at hst ⊢
      have hb04 : Below w.heap.size w w4 := (hb02.trans (hb3.mono hb02.size)).trans (hst.2.2.1.mono (Nat.le_trans hb02.size hb3.size))
      clear hst hw4 ho3 HRA3 hsz3 hon3 hb3
      go_wp2_with (go_at_call 12; refine (rc.awake_any _ (HT.out.below hb04)).mono ?_; rintro e w5 ⟨rfl, hb5⟩)
      go_ret
      exact ⟨rfl, hb04.trans (hb5.mono hb04.size)⟩
    · have h1i : ¬ (n : Int) < 1 := by omega
      have h2i : (256 : Int) < n := by omega
      go_enter Tryd.func8, Tryd.ntmps8
      go_upto_region 4 with (first
        | (go_at_call 18; refine (HMK.out _ _).mono ?_; rintro e w1 ⟨RA, A1, n1, c1, rfl, HRA, ho1, hb1⟩; have hsz := va_size hd HRA; have hon := va_one HRA)
        | (refine wpList_store_mid rfl 26 (.tmp 3) (.tmp 18) rfl w1.heap.size 0 RA rfl rfl (by rw [hsz]; exact rec_zero_there w1) (by rw [hsz]; exact info_rec) hon ?_)
        | fail)
      show Code.wp _ _ _ _ ((w1.alloc (.cells recZ.toArray 26)).setCells w1.heap.size 0 RA.toList)
      have hst := rec_stored (K := 0) (S := 0) (A := A1) (n := n1) (c := c1) hd w1
      rw [show RA.toList = recL 0 0 z32 A1 n1 c1 by rw [HRA.out]]
      obtain ⟨w2, hw2⟩ : ∃ z, (w1.alloc (.cells recZ.toArray 26)).setCells w1.heap.size 0 (recL 0 0 z32 A1 n1 c1) = z := ⟨_, rfl⟩
      rw [hw2] at hst ⊢
      have hb02 : Below w.heap.size w w2 := hb1.trans (hst.2.2.1.mono hb1.size)
      clear hst hw2 ho1 HRA hsz hon hb1
      go_upto_region 5 with (first
        | (go_at_call 18; refine (HMK.out _ _).mono ?_; rintro e w3 ⟨RA3, A3, n3, c3, rfl, HRA3, ho3, hb3⟩; have hsz3 := va_size hd HRA3; have hon3 := va_one HRA3)
        | (refine wpList_store_mid rfl 26 (.tmp 5) (.tmp 23) rfl w3.heap.size 0 RA3 rfl rfl (by rw [hsz3]; exact rec_zero_there w3) (by rw [hsz3]; exact info_rec) hon3 ?_)
        | fail)
      show Code.wp _ _ _ _ ((w3.alloc (.cells recZ.toArray 26)).setCells w3.heap.size 0 RA3.toList)
      have hst := rec_stored (K := 0) (S := 0) (A := A3) (n := n3) (c := c3) hd w3
      rw [show RA3.toList = recL 0 0 z32 A3 n3 c3 by rw [HRA3.out]]
      obtain ⟨w4, hw4⟩ : ∃ z, (w3.alloc (.cells recZ.toArray 26)).setCells w3.heap.size 0 (recL 0 0 z32 A3 n3 c3) = z := ⟨_, rfl⟩
      rw [hw4] at hst ⊢
      have hb04 : Below w.heap.size w w4 := (hb02.trans (hb3.mono hb02.size)).trans (hst.2.2.1.mono (Nat.le_trans hb02.size hb3.size))
      clear hst hw4 ho3 HRA3 hsz3 hon3 hb3
      go_wp2_with (go_at_call 12; refine (rc.awake_any _ (HT.out.below hb04)).mono ?_; rintro e w5 ⟨rfl, hb5⟩)
      go_ret
      exact ⟨rfl, hb04.trans (hb5.mono hb04.size)⟩
  obtain ⟨hlo, hhi⟩ := hfit
  have h1i : ¬ (n : Int) < 1 := by omega
  have h2i : ¬ (256 : Int) < n := by omega
  have hfs : fitsS (n : Nat) = true := decide_eq_true (by omega)
  have hd := digest_len l
  have hop1 := open_made l (by omega) (by omega)
  have hop2 := open_known n hlo hhi (digest l)
  rw [hl] at hop1
  have hle : (mkD l).length ≤ n := by have := mkD_le l; omega
  have hmk1 := (make_new A n c _ l w hr (Nat.le_refl _) hc HT.out hfs).mono fun _ _ h => h.v
  have hmk2 := fun y (hy : Below w.heap.size w y) => (make_known A n c _ l y (hr.below hy (Nat.le_refl _)) hy.size hc (HT.out.below hy) hfs).mono fun _ _ h => h.v
  unfold MadeV at hmk1 hmk2
  obtain ⟨dg0, hdg⟩ : ∃ d, digest l = d := ⟨_, rfl⟩
  rw [hdg] at hd hop1 hop2 hmk1
  simp only [hdg] at hmk2
  obtain ⟨k0, hk0⟩ : ∃ k, mkK l = k := ⟨_, rfl⟩
  obtain ⟨x0, hx0⟩ : ∃ x, mkD l = x := ⟨_, rfl⟩
  rw [hk0, hx0] at hop1 hmk1
  rw [hx0] at hle
  have HD := Lib.hid hdg
  have HL := Lib.hid hl
  have HR := Lib.hid hr
  have HM1 := Lib.hid hmk1
  have HM2 := Lib.hid hmk2
  have HO1 := Lib.hid hop1
  have HO2 := Lib.hid hop2
  have hinfS : (Tryd.prog.info? 23).map (·.size) = some (bv dg0).length := by rw [bv_len, hd]; kernel_rfl
  clear hmk1 hmk2 hdg hl hr hk0 hx0 hop1 hop2
  go_enter Tryd.func8, Tryd.ntmps8
  go_upto_region 4 with (first
    | (go_at_call 18; refine (HM1.out).mono ?_; rintro e w1 ⟨RA, A1, n1, c1, rfl, HRA, ho1, hb1⟩; have hsz := va_size hd HRA; have hon := va_one HRA)
    | (refine wpList_store_mid rfl 26 (.tmp 3) (.tmp 18) rfl w1.heap.size 0 RA rfl rfl (by rw [hsz]; exact rec_zero_there w1) (by rw [hsz]; exact info_rec) hon ?_)
    | fail)
  show Code.wp _ _ _ _ ((w1.alloc (.cells recZ.toArray 26)).setCells w1.heap.size 0 RA.toList)
  have hst := rec_stored (K := k0) (S := (n : Nat)) (A := A1) (n := n1) (c := c1) hd w1
  rw [show RA.toList = recL k0 (n : Nat) dg0 A1 n1 c1 by rw [HRA.out]]
  obtain ⟨w2, hw2⟩ : ∃ z, (w1.alloc (.cells recZ.toArray 26)).setCells w1.heap.size 0 (recL k0 (n : Nat) dg0 A1 n1 c1) = z := ⟨_, rfl⟩
  rw [hw2] at hst ⊢
  have hb02 : Below w.heap.size w w2 := hb1.trans (hst.2.2.1.mono hb1.size)
  obtain ⟨g3, hg3e⟩ : ∃ g, w1.heap.size = g := ⟨_, rfl⟩
  have hn1 : n1 ≤ n := by have := ho1.len; rw [bv_len] at this; omega
  have hrd1 := ho1.rd.below hst.2.2.1 (Nat.le_refl _)
  have hm2 := HM2.out w2 hb02
  rw [hg3e] at hst hrd1 ⊢
  have HM3 := Lib.hid hm2
  have H2 := Lib.hid (And.intro hst.1 (And.intro hrd1 hb02))
  have hg32 := hst.2.2.2
  clear hst hw2 ho1 hsz hon hb1 hrd1 hm2 hb02 hg3e HM2
  go_upto_region 5 with (first
    | (go_at_call 18; refine (HM3.out).mono ?_; rintro e w3 ⟨RA3, A3, n3, c3, rfl, HRA3, ho3, hb3⟩; have hsz3 := va_size hd HRA3; have hon3 := va_one HRA3)
    | (refine wpList_store_mid rfl 26 (.tmp 5) (.tmp 23) rfl w3.heap.size 0 RA3 rfl rfl (by rw [hsz3]; exact rec_zero_there w3) (by rw [hsz3]; exact info_rec) hon3 ?_)
    | fail)
  show Code.wp _ _ _ _ ((w3.alloc (.cells recZ.toArray 26)).setCells w3.heap.size 0 RA3.toList)
  have hst := rec_stored (K := 1) (S := (n : Nat)) (A := A3) (n := n3) (c := c3) hd w3
  rw [show RA3.toList = recL 1 (n : Nat) dg0 A3 n3 c3 by rw [HRA3.out]]
  obtain ⟨w4, hw4⟩ : ∃ z, (w3.alloc (.cells recZ.toArray 26)).setCells w3.heap.size 0 (recL 1 (n : Nat) dg0 A3 n3 c3) = z := ⟨_, rfl⟩
  rw [hw4] at hst ⊢
  have hn3 : n3 = 0 := by have := ho3.len; rw [bv_len] at this; exact this.symm
  subst hn3
  have hb24 : Below w2.heap.size w2 w4 := hb3.trans (hst.2.2.1.mono hb3.size)
  have hb04 : Below w.heap.size w w4 := H2.out.2.2.trans (hb24.mono H2.out.2.2.size)
  obtain ⟨g5, hg5e⟩ : ∃ g, w3.heap.size = g := ⟨_, rfl⟩
  rw [hg5e] at hst ⊢
  have hr34 := dg.range_below H2.out.1 hb24 hg32
  have hg34 : g3 < w4.heap.size := Nat.lt_of_lt_of_le hg32 hb24.size
  have hg54 := hst.2.2.2
  have hrd4 := H2.out.2.1.below hb24 (Nat.le_of_lt hg32)
  have hopa := open_any k0 (n : Nat) dg0 hd A1 n1 c1 _ x0 w4 hrd4 (Nat.le_of_lt hg34) (by omega) (by omega) (HT.out.below hb04)
  rw [HO1.out, ← HRA.out] at hopa
  unfold MadeE at hopa
  have HOA := Lib.hid hopa
  have hopb := fun y (hy : Below w.heap.size w y) => open_any 1 (n : Nat) dg0 hd A3 0 c3 0 [] y (Rd.nil _ _ _) (Nat.zero_le _) (by omega) (by omega) (HT.out.below hy)
  simp only [HO2.out, ← HRA3.out] at hopb
  unfold MadeE at hopb
  have HOB := Lib.hid hopb
  have hr54 := hst.1
  have HRL := Lib.hid (And.intro HRA.out.symm HRA3.out.symm)
  have HR4 := Lib.hid (And.intro hr34 hr54)
  have hinfR : ∀ {K S : Int} {A : Option Addr} {n c : Nat}, (Tryd.prog.info? 26).map (·.size) = some (recL K S dg0 A n c).length := by intros; rw [recL_len hd]; exact info_rec
  have hi3 := hinfR (K := k0) (S := (n : Nat)) (A := A1) (n := n1) (c := c1)
  have hi5 := hinfR (K := 1) (S := (n : Nat)) (A := A3) (n := 0) (c := c3)
  have H4 := Lib.hid (And.intro hb04 hrd4)
  obtain ⟨RL3, hRL3⟩ : ∃ z, recL k0 (n : Nat) dg0 A1 n1 c1 = z := ⟨_, rfl⟩
  obtain ⟨RL5, hRL5⟩ : ∃ z, recL 1 (n : Nat) dg0 A3 0 c3 = z := ⟨_, rfl⟩
  rw [hRL3] at hr34 hi3
  rw [hRL5] at hr54 hi5
  have HRL3 := Lib.hid (show RL3.toArray = RA by rw [← hRL3, HRL.out.1])
  have HRL5 := Lib.hid (show RL5.toArray = RA3 by rw [← hRL5, HRL.out.2])
  clear hst hw4 ho3 HRA HRA3 hsz3 hon3 hb3 hb24 hopa hopb hg5e hrd4 hb04 hinfR hRL3 hRL5 HM3 HM1
  go_upto_region 8 with (first
    | (refine wpList_load_mid rfl 26 (.tmp 3) rfl g3 0 rfl RL3 _ hr34 Tryd.underlying26 rfl hi3 ?_; rw [HRL3.out])
    | (go_at_call 22; refine (HOA.out).mono ?_; rintro e w6 ⟨A7, n7, c7, rfl, ho7, hb6⟩)
    | fail)
  have hb06 : Below w.heap.size w w6 := H4.out.1.trans (hb6.mono H4.out.1.size)
  have hr36 := dg.range_below HR4.out.1 hb6 hg34
  have hr56 := dg.range_below HR4.out.2 hb6 hg54
  have hr56b := dg.range_below hr54 hb6 hg54
  have hobb := HOB.out w6 hb06
  have HOB6 := Lib.hid hobb
  have hg36 := Nat.lt_of_lt_of_le hg34 hb6.size
  have hg56 := Nat.lt_of_lt_of_le hg54 hb6.size
  have H6 := Lib.hid (And.intro hb06 (And.intro ho7 (And.intro hr36 hr56)))
  clear hobb HOB HOA hb6 ho7 hr36 hr56 hb06 hr34 hr54
  go_upto_region 9 with (first
    | (refine wpList_load_mid rfl 26 (.tmp 5) rfl g5 0 rfl RL5 _ hr56b Tryd.underlying26 rfl hi5 ?_; rw [HRL5.out])
    | (go_at_call 22; refine (HOB6.out).mono ?_; rintro e X ⟨A9, n9, c9, rfl, ho9, hb8⟩)
    | fail)
  have hb0X : Below w.heap.size w X := H6.out.1.trans (hb8.mono H6.out.1.size)
  have hg3 := Nat.lt_of_lt_of_le hg36 hb8.size
  have hg5 := Nat.lt_of_lt_of_le hg56 hb8.size
  have hr3X := dg.range_below H6.out.2.2.1 hb8 hg36
  have hr5X := dg.range_below H6.out.2.2.2 hb8 hg56
  have hrd7 := (H6.out.2.1.below hb8 (Nat.le_refl _)).rd
  have c31 : X.cell? ⟨g3, 1, none⟩ = some (.int .i64 (n : Nat)) := hr3X 1 _ rfl
  have c334 : X.cell? ⟨g3, 34, none⟩ = some (.slice A1 n1 c1) := hr3X 34 _ (recL_34 hd)
  have c534 : X.cell? ⟨g5, 34, none⟩ = some (.slice A3 0 c3) := hr5X 34 _ (recL_34 hd)
  have hs3 := rec_sum hr3X
  have hs5 := rec_sum hr5X
  have hnn1 : ((n1 : Nat) : Int) ≤ (n : Int) := by omega
  have hrdA := HR.out.below hb0X (Nat.le_refl _)
  have HP := Lib.hid (And.intro hs3 (And.intro hs5 (And.intro hrd7 hrdA)))
  have H9 := Lib.hid hb0X
  have HT2 : Hid (∀ y, Below X.heap.size X y → dg.Tab y) := Lib.hid (fun y hy => HT.out.below (hb0X.trans (hy.mono hb0X.size)))
  have hse := fun y => dg.sum_equal dg0 dg0 hd hd y
  rw [decide_eq_true rfl] at hse
  have HSE := Lib.hid hse
  have heq : ∀ y, Below X.heap.size X y → Calls Tryd.prog 21 #[.slice A7 n7 c7, .slice A n c] y fun e w' => e = .returned (.bool true) ∧ y = w' := fun y hy => by
    have := oct.equal_any A7 A n7 c7 n c X.heap.size l l y (hrd7.below hy (Nat.le_refl _)) ((hrdA.below hy hb0X.size).more hb0X.size)
    rwa [decide_eq_true rfl] at this
  have HEQ := Lib.hid heq
  have hof : ∀ y, Below X.heap.size X y → Calls Tryd.prog 29 #[.slice (some ⟨y.heap.size, 0, none⟩) 1 1] (y.alloc (.cells #[.slice A n c] 24)) fun e w' => e = .returned (.agg (bv dg0).toArray) ∧ Below (y.alloc (.cells #[.slice A n c] 24)).heap.size (y.alloc (.cells #[.slice A n c] 24)) w' := fun y hy => by
    have hy2 : Below X.heap.size X (y.alloc (.cells #[.slice A n c] 24)) := hy.alloc hy.size _
    have hp := dg.Parts.one ((hrdA.below hy hb0X.size).more hb0X.size) hc hy.size 24
    have hof := dg.of_any _ 1 1 _ _ _ (HT2.out _ hy2) hp (by simp) (by omega) (by rw [dg.tot_flat]; have := HL.out; simp; omega)
    rw [show [l].flatten = l by simp, HD.out] at hof
    exact hof
  have HOFA := Lib.hid hof
  clear heq hof hse hrd7 hrdA hs3 hs5 hr3X hr5X hb8 ho9 hr56b hb0X
  have hS0 : Below X.heap.size X X.drew := lz.below_drew (Below.refl _ _)
  obtain ⟨wq, hwq⟩ : ∃ z, X.drew = z := ⟨_, rfl⟩
  have HS := Lib.hid hS0
  have HOF := Lib.hid (fun (_ : Unit) => HOFA.out _ hS0)
  rw [hwq] at HS HOF
  refine wp_region_held_drew (S := fun y => Below X.heap.size X y) (by kernel_rfl) hS0 (fun hHeld => ?_)
  rw [hwq] at hHeld ⊢
  clear hwq hS0 HOFA
  refine wpAnyH_take (i := 0) (oi := { dst := some 52, op := Op.move (Operand.tmp 4), type := 30, pos := "law.go:98", after := #[], guard := none }) (v := .int .i64 0) rfl (by kernel_rfl) (by kernel_rfl) (by kernel_rfl) (fun _ _ _ h => h) (Or.inl ⟨by rfl, ?hy1_0⟩) (by assumption) ?rest1_0
  case hy1_0 => (intro w hSw; (try dsimp only at hSw); go_simp; try with_reducible rfl)
  try simp only [Act.put, List.setIfInBounds_toArray, List.set_cons_zero, List.set_cons_succ]
  refine wpAnyH_take (i := 1) (oi := { dst := some 53, op := Op.binOp BinOp.eql 30 (Operand.tmp 52) (Operand.const (Value.int IntKind.i64 0)) 30, type := 4, pos := "law.go:98", after := #[{ on := 0, ground := Ground.data }], guard := none }) (v := .bool true) rfl (by kernel_rfl) (by kernel_rfl) (by kernel_rfl) (fun _ _ _ h => h) (Or.inl ⟨by rfl, ?hy1_1⟩) (by assumption) ?rest1_1
  case hy1_1 => (intro w hSw; (try dsimp only at hSw); go_simp; try with_reducible rfl)
  try simp only [Act.put, List.setIfInBounds_toArray, List.set_cons_zero, List.set_cons_succ]
  refine wpAnyH_take (i := 2) (oi := { dst := some 54, op := Op.move (Operand.tmp 53), type := 4, pos := "law.go:98", after := #[{ on := 1, ground := Ground.data }], guard := none }) (v := .bool true) rfl (by kernel_rfl) (by kernel_rfl) (by kernel_rfl) (fun _ _ _ h => h) (Or.inl ⟨by rfl, ?hy1_2⟩) (by assumption) ?rest1_2
  case hy1_2 => (intro w hSw; (try dsimp only at hSw); go_simp; try with_reducible rfl)
  try simp only [Act.put, List.setIfInBounds_toArray, List.set_cons_zero, List.set_cons_succ]
  refine wpAnyH_take (i := 3) (oi := { dst := some 55, op := Op.move (Operand.tmp 6), type := 30, pos := "law.go:98", after := #[{ on := 2, ground := Ground.guard }], guard := some (2, true) }) (v := .int .i64 0) rfl (by kernel_rfl) (by kernel_rfl) (by kernel_rfl) (fun _ _ _ h => h) (Or.inl ⟨by rfl, ?hy1_3⟩) (by assumption) ?rest1_3
  case hy1_3 => (intro w hSw; (try dsimp only at hSw); go_simp; try with_reducible rfl)
  try simp only [Act.put, List.setIfInBounds_toArray, List.set_cons_zero, List.set_cons_succ]
  refine wpAnyH_take (i := 4) (oi := { dst := some 56, op := Op.binOp BinOp.eql 30 (Operand.tmp 55) (Operand.const (Value.int IntKind.i64 0)) 30, type := 4, pos := "law.go:98", after := #[{ on := 3, ground := Ground.data }, { on := 2, ground := Ground.guard }], guard := some (2, true) }) (v := .bool true) rfl (by kernel_rfl) (by kernel_rfl) (by kernel_rfl) (fun _ _ _ h => h) (Or.inl ⟨by rfl, ?hy1_4⟩) (by assumption) ?rest1_4
  case hy1_4 => (intro w hSw; (try dsimp only at hSw); go_simp; try with_reducible rfl)
  try simp only [Act.put, List.setIfInBounds_toArray, List.set_cons_zero, List.set_cons_succ]
  refine wpAnyH_take (i := 5) (oi := { dst := some 57, op := Op.pick (Operand.tmp 54) (Operand.tmp 56) (Operand.const (Value.bool false)), type := 4, pos := "law.go:98", after := #[{ on := 2, ground := Ground.data }, { on := 4, ground := Ground.data }], guard := none }) (v := .bool true) rfl (by kernel_rfl) (by kernel_rfl) (by kernel_rfl) (fun _ _ _ h => h) (Or.inl ⟨by rfl, ?hy1_5⟩) (by assumption) ?rest1_5
  case hy1_5 => (intro w hSw; (try dsimp only at hSw); go_simp; try with_reducible rfl)
  try simp only [Act.put, List.setIfInBounds_toArray, List.set_cons_zero, List.set_cons_succ]
  refine wpAnyH_take (i := 6) (oi := { dst := some 58, op := Op.move (Operand.tmp 57), type := 4, pos := "law.go:98", after := #[{ on := 5, ground := Ground.data }, { on := 2, ground := Ground.chain }], guard := none }) (v := .bool true) rfl (by kernel_rfl) (by kernel_rfl) (by kernel_rfl) (fun _ _ _ h => h) (Or.inl ⟨by rfl, ?hy1_6⟩) (by assumption) ?rest1_6
  case hy1_6 => (intro w hSw; (try dsimp only at hSw); go_simp; try with_reducible rfl)
  try simp only [Act.put, List.setIfInBounds_toArray, List.set_cons_zero, List.set_cons_succ]
  refine wpAnyH_take (i := 7) (oi := { dst := some 59, op := Op.move (Operand.tmp 8), type := 30, pos := "law.go:98", after := #[{ on := 6, ground := Ground.guard }], guard := some (6, true) }) (v := .int .i64 0) rfl (by kernel_rfl) (by kernel_rfl) (by kernel_rfl) (fun _ _ _ h => h) (Or.inl ⟨by rfl, ?hy1_7⟩) (by assumption) ?rest1_7
  case hy1_7 => (intro w hSw; (try dsimp only at hSw); go_simp; try with_reducible rfl)
  try simp only [Act.put, List.setIfInBounds_toArray, List.set_cons_zero, List.set_cons_succ]
  refine wpAnyH_take (i := 8) (oi := { dst := some 60, op := Op.binOp BinOp.eql 30 (Operand.tmp 59) (Operand.const (Value.int IntKind.i64 0)) 30, type := 4, pos := "law.go:98", after := #[{ on := 7, ground := Ground.data }, { on := 6, ground := Ground.guard }], guard := some (6, true) }) (v := .bool true) rfl (by kernel_rfl) (by kernel_rfl) (by kernel_rfl) (fun _ _ _ h => h) (Or.inl ⟨by rfl, ?hy1_8⟩) (by assumption) ?rest1_8
  case hy1_8 => (intro w hSw; (try dsimp only at hSw); go_simp; try with_reducible rfl)
  try simp only [Act.put, List.setIfInBounds_toArray, List.set_cons_zero, List.set_cons_succ]
  refine wpAnyH_take (i := 9) (oi := { dst := some 61, op := Op.pick (Operand.tmp 58) (Operand.tmp 60) (Operand.const (Value.bool false)), type := 4, pos := "law.go:98", after := #[{ on := 6, ground := Ground.data }, { on := 8, ground := Ground.data }], guard := none }) (v := .bool true) rfl (by kernel_rfl) (by kernel_rfl) (by kernel_rfl) (fun _ _ _ h => h) (Or.inl ⟨by rfl, ?hy1_9⟩) (by assumption) ?rest1_9
  case hy1_9 => (intro w hSw; (try dsimp only at hSw); go_simp; try with_reducible rfl)
  try simp only [Act.put, List.setIfInBounds_toArray, List.set_cons_zero, List.set_cons_succ]
  refine wpAnyH_take (i := 10) (oi := { dst := some 62, op := Op.move (Operand.tmp 61), type := 4, pos := "law.go:98", after := #[{ on := 9, ground := Ground.data }, { on := 6, ground := Ground.chain }], guard := none }) (v := .bool true) rfl (by kernel_rfl) (by kernel_rfl) (by kernel_rfl) (fun _ _ _ h => h) (Or.inl ⟨by rfl, ?hy1_10⟩) (by assumption) ?rest1_10
  case hy1_10 => (intro w hSw; (try dsimp only at hSw); go_simp; try with_reducible rfl)
  try simp only [Act.put, List.setIfInBounds_toArray, List.set_cons_zero, List.set_cons_succ]
  refine wpAnyH_take (i := 11) (oi := { dst := some 63, op := Op.move (Operand.tmp 7), type := 24, pos := "law.go:98", after := #[{ on := 10, ground := Ground.guard }], guard := some (10, true) }) (v := .slice A7 n7 c7) rfl (by kernel_rfl) (by kernel_rfl) (by kernel_rfl) (fun _ _ _ h => h) (Or.inl ⟨by rfl, ?hy1_11⟩) (by assumption) ?rest1_11
  case hy1_11 => (intro w hSw; (try dsimp only at hSw); go_simp; try with_reducible rfl)
  try simp only [Act.put, List.setIfInBounds_toArray, List.set_cons_zero, List.set_cons_succ]
  refine wpAnyH_take (i := 12) (oi := { dst := some 64, op := Op.move (Operand.tmp 0), type := 24, pos := "law.go:98", after := #[{ on := 10, ground := Ground.guard }], guard := some (10, true) }) (v := .slice A n c) rfl (by kernel_rfl) (by kernel_rfl) (by kernel_rfl) (fun _ _ _ h => h) (Or.inl ⟨by rfl, ?hy1_12⟩) (by assumption) ?rest1_12
  case hy1_12 => (intro w hSw; (try dsimp only at hSw); go_simp; try with_reducible rfl)
  try simp only [Act.put, List.setIfInBounds_toArray, List.set_cons_zero, List.set_cons_succ]
  refine wpAnyH_ready (rs := [13]) (by kernel_rfl) (by simp) ?_
  refine AllReadyH.cons (o := { dst := some 65, op := Op.call { callee := Callee.value (Operand.func 21), args := #[Operand.tmp 63, Operand.tmp 64], argTypes := #[24, 24] }, type := 4, pos := "law.go:98", after := #[{ on := 11, ground := Ground.data }, { on := 12, ground := Ground.data }, { on := 10, ground := Ground.chain }, { on := 10, ground := Ground.guard }], guard := some (10, true) }) rfl (fun K hK => ?_) AllReadyH.nil
  go_simp
  refine (HEQ.out _ (by assumption)).mono ?_
  rintro e w' ⟨rfl, rfl⟩
  refine hK.out _ _ (by assumption) (fun _ => ?_)
  clear hK K
  try simp only [Act.put, List.setIfInBounds_toArray, List.set_cons_zero, List.set_cons_succ]
  refine wpAnyH_take (i := 14) (oi := { dst := some 66, op := Op.pick (Operand.tmp 62) (Operand.tmp 65) (Operand.const (Value.bool false)), type := 4, pos := "law.go:98", after := #[{ on := 10, ground := Ground.data }, { on := 13, ground := Ground.data }], guard := none }) (v := .bool true) rfl (by kernel_rfl) (by kernel_rfl) (by kernel_rfl) (fun _ _ _ h => h) (Or.inl ⟨by rfl, ?hy1_14⟩) (by assumption) ?rest1_14
  case hy1_14 => (intro w hSw; (try dsimp only at hSw); go_simp; try with_reducible rfl)
  try simp only [Act.put, List.setIfInBounds_toArray, List.set_cons_zero, List.set_cons_succ]
  refine wpAnyH_take (i := 15) (oi := { dst := some 67, op := Op.move (Operand.tmp 66), type := 4, pos := "law.go:98", after := #[{ on := 14, ground := Ground.data }, { on := 13, ground := Ground.chain }], guard := none }) (v := .bool true) rfl (by kernel_rfl) (by kernel_rfl) (by kernel_rfl) (fun _ _ _ h => h) (Or.inl ⟨by rfl, ?hy1_15⟩) (by assumption) ?rest1_15
  case hy1_15 => (intro w hSw; (try dsimp only at hSw); go_simp; try with_reducible rfl)
  try simp only [Act.put, List.setIfInBounds_toArray, List.set_cons_zero, List.set_cons_succ]
  refine wpAnyH_take (i := 16) (oi := { dst := some 68, op := Op.fieldAddr 26 (Operand.tmp 3) 3, type := 0, pos := "law.go:98", after := #[{ on := 15, ground := Ground.guard }], guard := some (15, true) }) (v := .pointer (some ⟨g3, 34, none⟩)) rfl (by kernel_rfl) (by kernel_rfl) (by kernel_rfl) (fun _ _ _ h => h) (Or.inl ⟨by rfl, ?hy1_16⟩) (by assumption) ?rest1_16
  case hy1_16 => (intro w hSw; (try dsimp only at hSw); go_simp; try with_reducible rfl)
  try simp only [Act.put, List.setIfInBounds_toArray, List.set_cons_zero, List.set_cons_succ]
  refine wpAnyH_take (i := 17) (oi := { dst := some 69, op := Op.load 24 (Operand.tmp 68), type := 24, pos := "law.go:98", after := #[{ on := 16, ground := Ground.data }, { on := 15, ground := Ground.guard }], guard := some (15, true) }) (v := .slice A1 n1 c1) rfl (by kernel_rfl) (by kernel_rfl) (by kernel_rfl) (fun _ _ _ h => h) (Or.inl ⟨by rfl, ?hy1_17⟩) (by assumption) ?rest1_17
  case hy1_17 => (intro w hSw; have hq := (Below.cell hSw (p := ⟨g3, 34, none⟩) hg3).trans c334; go_simp; try with_reducible rfl)
  try simp only [Act.put, List.setIfInBounds_toArray, List.set_cons_zero, List.set_cons_succ]
  refine wpAnyH_take (i := 18) (oi := { dst := some 70, op := Op.call { callee := Callee.builtin Builtin.len, args := #[Operand.tmp 69], argTypes := #[24] }, type := 3, pos := "law.go:98", after := #[{ on := 17, ground := Ground.data }, { on := 15, ground := Ground.guard }], guard := some (15, true) }) (v := .int .i64 n1) rfl (by kernel_rfl) (by kernel_rfl) (by kernel_rfl) (fun _ _ _ h => h) (Or.inl ⟨by rfl, ?hy1_18⟩) (by assumption) ?rest1_18
  case hy1_18 => (intro w hSw; (try dsimp only at hSw); go_simp; try with_reducible rfl)
  try simp only [Act.put, List.setIfInBounds_toArray, List.set_cons_zero, List.set_cons_succ]
  refine wpAnyH_take (i := 19) (oi := { dst := some 71, op := Op.move (Operand.tmp 0), type := 24, pos := "law.go:98", after := #[{ on := 15, ground := Ground.guard }], guard := some (15, true) }) (v := .slice A n c) rfl (by kernel_rfl) (by kernel_rfl) (by kernel_rfl) (fun _ _ _ h => h) (Or.inl ⟨by rfl, ?hy1_19⟩) (by assumption) ?rest1_19
  case hy1_19 => (intro w hSw; (try dsimp only at hSw); go_simp; try with_reducible rfl)
  try simp only [Act.put, List.setIfInBounds_toArray, List.set_cons_zero, List.set_cons_succ]
  refine wpAnyH_take (i := 20) (oi := { dst := some 72, op := Op.call { callee := Callee.builtin Builtin.len, args := #[Operand.tmp 71], argTypes := #[24] }, type := 3, pos := "law.go:98", after := #[{ on := 19, ground := Ground.data }, { on := 15, ground := Ground.guard }], guard := some (15, true) }) (v := .int .i64 n) rfl (by kernel_rfl) (by kernel_rfl) (by kernel_rfl) (fun _ _ _ h => h) (Or.inl ⟨by rfl, ?hy1_20⟩) (by assumption) ?rest1_20
  case hy1_20 => (intro w hSw; (try dsimp only at hSw); go_simp; try with_reducible rfl)
  try simp only [Act.put, List.setIfInBounds_toArray, List.set_cons_zero, List.set_cons_succ]
  refine wpAnyH_take (i := 21) (oi := { dst := some 73, op := Op.binOp BinOp.leq 3 (Operand.tmp 70) (Operand.tmp 72) 3, type := 4, pos := "law.go:98", after := #[{ on := 18, ground := Ground.data }, { on := 20, ground := Ground.data }, { on := 15, ground := Ground.guard }], guard := some (15, true) }) (v := .bool true) rfl (by kernel_rfl) (by kernel_rfl) (by kernel_rfl) (fun _ _ _ h => h) (Or.inl ⟨by rfl, ?hy1_21⟩) (by assumption) ?rest1_21
  case hy1_21 => (intro w hSw; (try dsimp only at hSw); go_simp; try with_reducible rfl)
  try simp only [Act.put, List.setIfInBounds_toArray, List.set_cons_zero, List.set_cons_succ]
  refine wpAnyH_take (i := 22) (oi := { dst := some 74, op := Op.pick (Operand.tmp 67) (Operand.tmp 73) (Operand.const (Value.bool false)), type := 4, pos := "law.go:98", after := #[{ on := 15, ground := Ground.data }, { on := 21, ground := Ground.data }], guard := none }) (v := .bool true) rfl (by kernel_rfl) (by kernel_rfl) (by kernel_rfl) (fun _ _ _ h => h) (Or.inl ⟨by rfl, ?hy1_22⟩) (by assumption) ?rest1_22
  case hy1_22 => (intro w hSw; (try dsimp only at hSw); go_simp; try with_reducible rfl)
  try simp only [Act.put, List.setIfInBounds_toArray, List.set_cons_zero, List.set_cons_succ]
  refine wpAnyH_take (i := 23) (oi := { dst := some 75, op := Op.move (Operand.tmp 74), type := 4, pos := "law.go:98", after := #[{ on := 22, ground := Ground.data }, { on := 15, ground := Ground.chain }], guard := none }) (v := .bool true) rfl (by kernel_rfl) (by kernel_rfl) (by kernel_rfl) (fun _ _ _ h => h) (Or.inl ⟨by rfl, ?hy1_23⟩) (by assumption) ?rest1_23
  case hy1_23 => (intro w hSw; (try dsimp only at hSw); go_simp; try with_reducible rfl)
  try simp only [Act.put, List.setIfInBounds_toArray, List.set_cons_zero, List.set_cons_succ]
  refine wpAnyH_take (i := 24) (oi := { dst := some 76, op := Op.fieldAddr 26 (Operand.tmp 3) 1, type := 0, pos := "law.go:98", after := #[{ on := 23, ground := Ground.guard }], guard := some (23, true) }) (v := .pointer (some ⟨g3, 1, none⟩)) rfl (by kernel_rfl) (by kernel_rfl) (by kernel_rfl) (fun _ _ _ h => h) (Or.inl ⟨by rfl, ?hy1_24⟩) (by assumption) ?rest1_24
  case hy1_24 => (intro w hSw; (try dsimp only at hSw); go_simp; try with_reducible rfl)
  try simp only [Act.put, List.setIfInBounds_toArray, List.set_cons_zero, List.set_cons_succ]
  refine wpAnyH_take (i := 25) (oi := { dst := some 77, op := Op.load 3 (Operand.tmp 76), type := 3, pos := "law.go:98", after := #[{ on := 24, ground := Ground.data }, { on := 23, ground := Ground.guard }], guard := some (23, true) }) (v := .int .i64 n) rfl (by kernel_rfl) (by kernel_rfl) (by kernel_rfl) (fun _ _ _ h => h) (Or.inl ⟨by rfl, ?hy1_25⟩) (by assumption) ?rest1_25
  case hy1_25 => (intro w hSw; have hq := (Below.cell hSw (p := ⟨g3, 1, none⟩) hg3).trans c31; go_simp; try with_reducible rfl)
  try simp only [Act.put, List.setIfInBounds_toArray, List.set_cons_zero, List.set_cons_succ]
  refine wpAnyH_take (i := 26) (oi := { dst := some 78, op := Op.move (Operand.tmp 0), type := 24, pos := "law.go:98", after := #[{ on := 23, ground := Ground.guard }], guard := some (23, true) }) (v := .slice A n c) rfl (by kernel_rfl) (by kernel_rfl) (by kernel_rfl) (fun _ _ _ h => h) (Or.inl ⟨by rfl, ?hy1_26⟩) (by assumption) ?rest1_26
  case hy1_26 => (intro w hSw; (try dsimp only at hSw); go_simp; try with_reducible rfl)
  try simp only [Act.put, List.setIfInBounds_toArray, List.set_cons_zero, List.set_cons_succ]
  refine wpAnyH_take (i := 27) (oi := { dst := some 79, op := Op.call { callee := Callee.builtin Builtin.len, args := #[Operand.tmp 78], argTypes := #[24] }, type := 3, pos := "law.go:98", after := #[{ on := 26, ground := Ground.data }, { on := 23, ground := Ground.guard }], guard := some (23, true) }) (v := .int .i64 n) rfl (by kernel_rfl) (by kernel_rfl) (by kernel_rfl) (fun _ _ _ h => h) (Or.inl ⟨by rfl, ?hy1_27⟩) (by assumption) ?rest1_27
  case hy1_27 => (intro w hSw; (try dsimp only at hSw); go_simp; try with_reducible rfl)
  try simp only [Act.put, List.setIfInBounds_toArray, List.set_cons_zero, List.set_cons_succ]
  refine wpAnyH_take (i := 28) (oi := { dst := some 80, op := Op.binOp BinOp.eql 3 (Operand.tmp 77) (Operand.tmp 79) 3, type := 4, pos := "law.go:98", after := #[{ on := 25, ground := Ground.data }, { on := 27, ground := Ground.data }, { on := 23, ground := Ground.guard }], guard := some (23, true) }) (v := .bool true) rfl (by kernel_rfl) (by kernel_rfl) (by kernel_rfl) (fun _ _ _ h => h) (Or.inl ⟨by rfl, ?hy1_28⟩) (by assumption) ?rest1_28
  case hy1_28 => (intro w hSw; (try dsimp only at hSw); go_simp; try with_reducible rfl)
  try simp only [Act.put, List.setIfInBounds_toArray, List.set_cons_zero, List.set_cons_succ]
  refine wpAnyH_take (i := 29) (oi := { dst := some 81, op := Op.pick (Operand.tmp 75) (Operand.tmp 80) (Operand.const (Value.bool false)), type := 4, pos := "law.go:98", after := #[{ on := 23, ground := Ground.data }, { on := 28, ground := Ground.data }], guard := none }) (v := .bool true) rfl (by kernel_rfl) (by kernel_rfl) (by kernel_rfl) (fun _ _ _ h => h) (Or.inl ⟨by rfl, ?hy1_29⟩) (by assumption) ?rest1_29
  case hy1_29 => (intro w hSw; (try dsimp only at hSw); go_simp; try with_reducible rfl)
  try simp only [Act.put, List.setIfInBounds_toArray, List.set_cons_zero, List.set_cons_succ]
  refine wpAnyH_take (i := 30) (oi := { dst := some 82, op := Op.move (Operand.tmp 81), type := 4, pos := "law.go:98", after := #[{ on := 29, ground := Ground.data }, { on := 23, ground := Ground.chain }], guard := none }) (v := .bool true) rfl (by kernel_rfl) (by kernel_rfl) (by kernel_rfl) (fun _ _ _ h => h) (Or.inl ⟨by rfl, ?hy1_30⟩) (by assumption) ?rest1_30
  case hy1_30 => (intro w hSw; (try dsimp only at hSw); go_simp; try with_reducible rfl)
  try simp only [Act.put, List.setIfInBounds_toArray, List.set_cons_zero, List.set_cons_succ]
  refine wpAnyH_take (i := 31) (oi := { dst := some 83, op := Op.fieldAddr 26 (Operand.tmp 3) 2, type := 0, pos := "law.go:98", after := #[{ on := 30, ground := Ground.guard }], guard := some (30, true) }) (v := .pointer (some ⟨g3, 2, none⟩)) rfl (by kernel_rfl) (by kernel_rfl) (by kernel_rfl) (fun _ _ _ h => h) (Or.inl ⟨by rfl, ?hy1_31⟩) (by assumption) ?rest1_31
  case hy1_31 => (intro w hSw; (try dsimp only at hSw); go_simp; try with_reducible rfl)
  try simp only [Act.put, List.setIfInBounds_toArray, List.set_cons_zero, List.set_cons_succ]
  refine wpAnyH_take (i := 32) (oi := { dst := some 84, op := Op.load 23 (Operand.tmp 83), type := 23, pos := "law.go:98", after := #[{ on := 31, ground := Ground.data }, { on := 30, ground := Ground.guard }], guard := some (30, true) }) (v := .agg (bv dg0).toArray) rfl (by kernel_rfl) (by kernel_rfl) (by kernel_rfl) (fun _ _ _ h => h) ?hy1_32 (by assumption) ?rest1_32
  case hy1_32 => exact yieldsIf_load_mid (by rfl) 23 (.tmp 83) rfl g3 2 rfl (bv dg0) _ (fun y hy => dg.range_below HP.out.1 hy hg3) Tryd.underlying23 rfl hinfS
  try simp only [Act.put, List.setIfInBounds_toArray, List.set_cons_zero, List.set_cons_succ]
  refine wpAnyH_take (i := 33) (oi := { dst := some 85, op := Op.move (Operand.tmp 0), type := 24, pos := "law.go:98", after := #[{ on := 30, ground := Ground.guard }], guard := some (30, true) }) (v := .slice A n c) rfl (by kernel_rfl) (by kernel_rfl) (by kernel_rfl) (fun _ _ _ h => h) (Or.inl ⟨by rfl, ?hy1_33⟩) (by assumption) ?rest1_33
  case hy1_33 => (intro w hSw; (try dsimp only at hSw); go_simp; try with_reducible rfl)
  try simp only [Act.put, List.setIfInBounds_toArray, List.set_cons_zero, List.set_cons_succ]
  refine wpAnyH_ready (rs := [34]) (by kernel_rfl) (by simp) ?_
  refine AllReadyH.cons (o := { dst := some 86, op := Op.buildSlice 82 1 #[(0, Operand.tmp 85)], type := 82, pos := "law.go:98", after := #[{ on := 33, ground := Ground.data }, { on := 30, ground := Ground.guard }], guard := some (30, true) }) rfl (fun K hK => ?_) AllReadyH.nil
  go_simp
  have hV0 : Below X.heap.size X (wq.alloc (.cells #[.slice A n c] 24)) := (HS.out).alloc (HS.out).size _
  refine hK.out _ _ hV0 (fun _ => ?_)
  clear hK K
  try simp only [Act.put, List.setIfInBounds_toArray, List.set_cons_zero, List.set_cons_succ]
  refine wpAnyH_ready (rs := [35]) (by kernel_rfl) (by simp) ?_
  refine AllReadyH.cons (o := { dst := some 87, op := Op.call { callee := Callee.value (Operand.func 29), args := #[Operand.tmp 86], argTypes := #[82] }, type := 23, pos := "law.go:98", after := #[{ on := 34, ground := Ground.data }, { on := 30, ground := Ground.chain }, { on := 30, ground := Ground.guard }], guard := some (30, true) }) rfl (fun K hK => ?_) AllReadyH.nil
  go_simp
  refine (HOF.out ()).mono ?_
  rintro e w4 ⟨rfl, hb4⟩
  refine hK.out _ _ (hV0.trans (hb4.mono hV0.size)) (fun _ => ?_)
  clear hK K
  try simp only [Act.put, List.setIfInBounds_toArray, List.set_cons_zero, List.set_cons_succ]
  refine wpAnyH_take (i := 36) (oi := { dst := some 88, op := Op.binOp BinOp.eql 23 (Operand.tmp 84) (Operand.tmp 87) 23, type := 4, pos := "law.go:98", after := #[{ on := 32, ground := Ground.data }, { on := 35, ground := Ground.data }, { on := 30, ground := Ground.guard }], guard := some (30, true) }) (v := .bool true) rfl (by kernel_rfl) (by kernel_rfl) (by kernel_rfl) (fun _ _ _ h => h) (Or.inl ⟨by rfl, ?hy1_36⟩) (by assumption) ?rest1_36
  case hy1_36 => (intro w hSw; (try dsimp only at hSw); go_simp; try (rw [HSE.out]; rfl))
  try simp only [Act.put, List.setIfInBounds_toArray, List.set_cons_zero, List.set_cons_succ]
  refine wpAnyH_take (i := 37) (oi := { dst := some 89, op := Op.pick (Operand.tmp 82) (Operand.tmp 88) (Operand.const (Value.bool false)), type := 4, pos := "law.go:98", after := #[{ on := 30, ground := Ground.data }, { on := 36, ground := Ground.data }], guard := none }) (v := .bool true) rfl (by kernel_rfl) (by kernel_rfl) (by kernel_rfl) (fun _ _ _ h => h) (Or.inl ⟨by rfl, ?hy1_37⟩) (by assumption) ?rest1_37
  case hy1_37 => (intro w hSw; (try dsimp only at hSw); go_simp; try with_reducible rfl)
  try simp only [Act.put, List.setIfInBounds_toArray, List.set_cons_zero, List.set_cons_succ]
  refine wpAnyH_take (i := 38) (oi := { dst := some 90, op := Op.move (Operand.tmp 89), type := 4, pos := "law.go:98", after := #[{ on := 37, ground := Ground.data }, { on := 35, ground := Ground.chain }], guard := none }) (v := .bool true) rfl (by kernel_rfl) (by kernel_rfl) (by kernel_rfl) (fun _ _ _ h => h) (Or.inl ⟨by rfl, ?hy1_38⟩) (by assumption) ?rest1_38
  case hy1_38 => (intro w hSw; (try dsimp only at hSw); go_simp; try with_reducible rfl)
  try simp only [Act.put, List.setIfInBounds_toArray, List.set_cons_zero, List.set_cons_succ]
  refine wpAnyH_take (i := 39) (oi := { dst := some 91, op := Op.fieldAddr 26 (Operand.tmp 5) 3, type := 0, pos := "law.go:98", after := #[{ on := 38, ground := Ground.guard }], guard := some (38, true) }) (v := .pointer (some ⟨g5, 34, none⟩)) rfl (by kernel_rfl) (by kernel_rfl) (by kernel_rfl) (fun _ _ _ h => h) (Or.inl ⟨by rfl, ?hy1_39⟩) (by assumption) ?rest1_39
  case hy1_39 => (intro w hSw; (try dsimp only at hSw); go_simp; try with_reducible rfl)
  try simp only [Act.put, List.setIfInBounds_toArray, List.set_cons_zero, List.set_cons_succ]
  refine wpAnyH_take (i := 40) (oi := { dst := some 92, op := Op.load 24 (Operand.tmp 91), type := 24, pos := "law.go:98", after := #[{ on := 39, ground := Ground.data }, { on := 38, ground := Ground.guard }], guard := some (38, true) }) (v := .slice A3 0 c3) rfl (by kernel_rfl) (by kernel_rfl) (by kernel_rfl) (fun _ _ _ h => h) (Or.inl ⟨by rfl, ?hy1_40⟩) (by assumption) ?rest1_40
  case hy1_40 => (intro w hSw; have hq := (Below.cell hSw (p := ⟨g5, 34, none⟩) hg5).trans c534; go_simp; try with_reducible rfl)
  try simp only [Act.put, List.setIfInBounds_toArray, List.set_cons_zero, List.set_cons_succ]
  refine wpAnyH_take (i := 41) (oi := { dst := some 93, op := Op.call { callee := Callee.builtin Builtin.len, args := #[Operand.tmp 92], argTypes := #[24] }, type := 3, pos := "law.go:98", after := #[{ on := 40, ground := Ground.data }, { on := 38, ground := Ground.guard }], guard := some (38, true) }) (v := .int .i64 0) rfl (by kernel_rfl) (by kernel_rfl) (by kernel_rfl) (fun _ _ _ h => h) (Or.inl ⟨by rfl, ?hy1_41⟩) (by assumption) ?rest1_41
  case hy1_41 => (intro w hSw; (try dsimp only at hSw); go_simp; try with_reducible rfl)
  try simp only [Act.put, List.setIfInBounds_toArray, List.set_cons_zero, List.set_cons_succ]
  refine wpAnyH_take (i := 42) (oi := { dst := some 94, op := Op.binOp BinOp.eql 3 (Operand.tmp 93) (Operand.const (Value.int IntKind.i64 0)) 3, type := 4, pos := "law.go:98", after := #[{ on := 41, ground := Ground.data }, { on := 38, ground := Ground.guard }], guard := some (38, true) }) (v := .bool true) rfl (by kernel_rfl) (by kernel_rfl) (by kernel_rfl) (fun _ _ _ h => h) (Or.inl ⟨by rfl, ?hy1_42⟩) (by assumption) ?rest1_42
  case hy1_42 => (intro w hSw; (try dsimp only at hSw); go_simp; try with_reducible rfl)
  try simp only [Act.put, List.setIfInBounds_toArray, List.set_cons_zero, List.set_cons_succ]
  refine wpAnyH_take (i := 43) (oi := { dst := some 95, op := Op.pick (Operand.tmp 90) (Operand.tmp 94) (Operand.const (Value.bool false)), type := 4, pos := "law.go:98", after := #[{ on := 38, ground := Ground.data }, { on := 42, ground := Ground.data }], guard := none }) (v := .bool true) rfl (by kernel_rfl) (by kernel_rfl) (by kernel_rfl) (fun _ _ _ h => h) (Or.inl ⟨by rfl, ?hy1_43⟩) (by assumption) ?rest1_43
  case hy1_43 => (intro w hSw; (try dsimp only at hSw); go_simp; try with_reducible rfl)
  try simp only [Act.put, List.setIfInBounds_toArray, List.set_cons_zero, List.set_cons_succ]
  refine wpAnyH_take (i := 44) (oi := { dst := some 96, op := Op.move (Operand.tmp 95), type := 4, pos := "law.go:98", after := #[{ on := 43, ground := Ground.data }, { on := 38, ground := Ground.chain }], guard := none }) (v := .bool true) rfl (by kernel_rfl) (by kernel_rfl) (by kernel_rfl) (fun _ _ _ h => h) (Or.inl ⟨by rfl, ?hy1_44⟩) (by assumption) ?rest1_44
  case hy1_44 => (intro w hSw; (try dsimp only at hSw); go_simp; try with_reducible rfl)
  try simp only [Act.put, List.setIfInBounds_toArray, List.set_cons_zero, List.set_cons_succ]
  refine wpAnyH_take (i := 45) (oi := { dst := some 97, op := Op.fieldAddr 26 (Operand.tmp 5) 2, type := 0, pos := "law.go:98", after := #[{ on := 44, ground := Ground.guard }], guard := some (44, true) }) (v := .pointer (some ⟨g5, 2, none⟩)) rfl (by kernel_rfl) (by kernel_rfl) (by kernel_rfl) (fun _ _ _ h => h) (Or.inl ⟨by rfl, ?hy1_45⟩) (by assumption) ?rest1_45
  case hy1_45 => (intro w hSw; (try dsimp only at hSw); go_simp; try with_reducible rfl)
  try simp only [Act.put, List.setIfInBounds_toArray, List.set_cons_zero, List.set_cons_succ]
  refine wpAnyH_take (i := 46) (oi := { dst := some 98, op := Op.load 23 (Operand.tmp 97), type := 23, pos := "law.go:98", after := #[{ on := 45, ground := Ground.data }, { on := 44, ground := Ground.guard }], guard := some (44, true) }) (v := .agg (bv dg0).toArray) rfl (by kernel_rfl) (by kernel_rfl) (by kernel_rfl) (fun _ _ _ h => h) ?hy1_46 (by assumption) ?rest1_46
  case hy1_46 => exact yieldsIf_load_mid (by rfl) 23 (.tmp 97) rfl g5 2 rfl (bv dg0) _ (fun y hy => dg.range_below HP.out.2.1 hy hg5) Tryd.underlying23 rfl hinfS
  try simp only [Act.put, List.setIfInBounds_toArray, List.set_cons_zero, List.set_cons_succ]
  refine wpAnyH_take (i := 47) (oi := { dst := some 99, op := Op.fieldAddr 26 (Operand.tmp 3) 2, type := 0, pos := "law.go:98", after := #[{ on := 44, ground := Ground.guard }], guard := some (44, true) }) (v := .pointer (some ⟨g3, 2, none⟩)) rfl (by kernel_rfl) (by kernel_rfl) (by kernel_rfl) (fun _ _ _ h => h) (Or.inl ⟨by rfl, ?hy1_47⟩) (by assumption) ?rest1_47
  case hy1_47 => (intro w hSw; (try dsimp only at hSw); go_simp; try with_reducible rfl)
  try simp only [Act.put, List.setIfInBounds_toArray, List.set_cons_zero, List.set_cons_succ]
  refine wpAnyH_take (i := 48) (oi := { dst := some 100, op := Op.load 23 (Operand.tmp 99), type := 23, pos := "law.go:98", after := #[{ on := 47, ground := Ground.data }, { on := 44, ground := Ground.guard }], guard := some (44, true) }) (v := .agg (bv dg0).toArray) rfl (by kernel_rfl) (by kernel_rfl) (by kernel_rfl) (fun _ _ _ h => h) ?hy1_48 (by assumption) ?rest1_48
  case hy1_48 => exact yieldsIf_load_mid (by rfl) 23 (.tmp 99) rfl g3 2 rfl (bv dg0) _ (fun y hy => dg.range_below HP.out.1 hy hg3) Tryd.underlying23 rfl hinfS
  try simp only [Act.put, List.setIfInBounds_toArray, List.set_cons_zero, List.set_cons_succ]
  refine wpAnyH_take (i := 49) (oi := { dst := some 101, op := Op.binOp BinOp.eql 23 (Operand.tmp 98) (Operand.tmp 100) 23, type := 4, pos := "law.go:98", after := #[{ on := 46, ground := Ground.data }, { on := 48, ground := Ground.data }, { on := 44, ground := Ground.guard }], guard := some (44, true) }) (v := .bool true) rfl (by kernel_rfl) (by kernel_rfl) (by kernel_rfl) (fun _ _ _ h => h) (Or.inl ⟨by rfl, ?hy1_49⟩) (by assumption) ?rest1_49
  case hy1_49 => (intro w hSw; (try dsimp only at hSw); go_simp; try (rw [HSE.out]; rfl))
  try simp only [Act.put, List.setIfInBounds_toArray, List.set_cons_zero, List.set_cons_succ]
  refine wpAnyH_take (i := 50) (oi := { dst := some 102, op := Op.pick (Operand.tmp 96) (Operand.tmp 101) (Operand.const (Value.bool false)), type := 4, pos := "law.go:98", after := #[{ on := 44, ground := Ground.data }, { on := 49, ground := Ground.data }], guard := none }) (v := .bool true) rfl (by kernel_rfl) (by kernel_rfl) (by kernel_rfl) (fun _ _ _ h => h) (Or.inl ⟨by rfl, ?hy1_50⟩) (by assumption) ?rest1_50
  case hy1_50 => (intro w hSw; (try dsimp only at hSw); go_simp; try with_reducible rfl)
  try simp only [Act.put, List.setIfInBounds_toArray, List.set_cons_zero, List.set_cons_succ]
  refine wpAnyH_take (i := 51) (oi := { dst := some 103, op := Op.move (Operand.tmp 102), type := 4, pos := "law.go:98", after := #[{ on := 50, ground := Ground.data }, { on := 44, ground := Ground.chain }], guard := none }) (v := .bool true) rfl (by kernel_rfl) (by kernel_rfl) (by kernel_rfl) (fun _ _ _ h => h) (Or.inl ⟨by rfl, ?hy1_51⟩) (by assumption) ?rest1_51
  case hy1_51 => (intro w hSw; (try dsimp only at hSw); go_simp; try with_reducible rfl)
  try simp only [Act.put, List.setIfInBounds_toArray, List.set_cons_zero, List.set_cons_succ]
  refine wpAnyH_take (i := 52) (oi := { dst := some 104, op := Op.move (Operand.tmp 10), type := 30, pos := "law.go:98", after := #[{ on := 51, ground := Ground.guard }], guard := some (51, true) }) (v := .int .i64 110) rfl (by kernel_rfl) (by kernel_rfl) (by kernel_rfl) (fun _ _ _ h => h) (Or.inl ⟨by rfl, ?hy1_52⟩) (by assumption) ?rest1_52
  case hy1_52 => (intro w hSw; (try dsimp only at hSw); go_simp; try with_reducible rfl)
  try simp only [Act.put, List.setIfInBounds_toArray, List.set_cons_zero, List.set_cons_succ]
  refine wpAnyH_take (i := 53) (oi := { dst := some 105, op := Op.binOp BinOp.eql 30 (Operand.tmp 104) (Operand.const (Value.int IntKind.i64 110)) 30, type := 4, pos := "law.go:98", after := #[{ on := 52, ground := Ground.data }, { on := 51, ground := Ground.guard }], guard := some (51, true) }) (v := .bool true) rfl (by kernel_rfl) (by kernel_rfl) (by kernel_rfl) (fun _ _ _ h => h) (Or.inl ⟨by rfl, ?hy1_53⟩) (by assumption) ?rest1_53
  case hy1_53 => (intro w hSw; (try dsimp only at hSw); go_simp; try with_reducible rfl)
  try simp only [Act.put, List.setIfInBounds_toArray, List.set_cons_zero, List.set_cons_succ]
  refine wpAnyH_take (i := 54) (oi := { dst := some 106, op := Op.pick (Operand.tmp 103) (Operand.tmp 105) (Operand.const (Value.bool false)), type := 4, pos := "law.go:98", after := #[{ on := 51, ground := Ground.data }, { on := 53, ground := Ground.data }], guard := none }) (v := .bool true) rfl (by kernel_rfl) (by kernel_rfl) (by kernel_rfl) (fun _ _ _ h => h) (Or.inl ⟨by rfl, ?hy1_54⟩) (by assumption) ?rest1_54
  case hy1_54 => (intro w hSw; (try dsimp only at hSw); go_simp; try with_reducible rfl)
  try simp only [Act.put, List.setIfInBounds_toArray, List.set_cons_zero, List.set_cons_succ]
  refine wpAnyH_take (i := 55) (oi := { dst := some 107, op := Op.move (Operand.tmp 106), type := 4, pos := "law.go:98", after := #[{ on := 54, ground := Ground.data }, { on := 51, ground := Ground.chain }], guard := none }) (v := .bool true) rfl (by kernel_rfl) (by kernel_rfl) (by kernel_rfl) (fun _ _ _ h => h) (Or.inl ⟨by rfl, ?hy1_55⟩) (by assumption) ?rest1_55
  case hy1_55 => (intro w hSw; (try dsimp only at hSw); go_simp; try with_reducible rfl)
  try simp only [Act.put, List.setIfInBounds_toArray, List.set_cons_zero, List.set_cons_succ]
  refine wpAnyH_ready (rs := [56]) (by kernel_rfl) (by simp) ?_
  refine AllReadyH.cons (o := { dst := some 108, op := Op.call { callee := Callee.value (Operand.func 12), args := #[], argTypes := #[] }, type := 4, pos := "law.go:98", after := #[{ on := 55, ground := Ground.chain }, { on := 55, ground := Ground.guard }], guard := some (55, true) }) rfl (fun K hK => ?_) AllReadyH.nil
  go_simp
  refine (rc.awake_any _ (HT2.out _ (by assumption))).mono ?_
  rintro e w5 ⟨rfl, hb5⟩
  refine hK.out _ _ (hV0.trans (hb4.mono hV0.size) |>.trans (hb5.mono (Nat.le_trans hV0.size hb4.size))) (fun _ => ?_)
  clear hK K
  try simp only [Act.put, List.setIfInBounds_toArray, List.set_cons_zero, List.set_cons_succ]
  refine wpAnyH_take (i := 57) (oi := { dst := some 109, op := Op.pick (Operand.tmp 107) (Operand.tmp 108) (Operand.const (Value.bool false)), type := 4, pos := "law.go:98", after := #[{ on := 55, ground := Ground.data }, { on := 56, ground := Ground.data }], guard := none }) (v := .bool true) rfl (by kernel_rfl) (by kernel_rfl) (by kernel_rfl) (fun _ _ _ h => h) (Or.inl ⟨by rfl, ?hy1_57⟩) (by assumption) ?rest1_57
  case hy1_57 => (intro w hSw; (try dsimp only at hSw); go_simp; try with_reducible rfl)
  try simp only [Act.put, List.setIfInBounds_toArray, List.set_cons_zero, List.set_cons_succ]
  refine wpAnyH_take (i := 58) (oi := { dst := some 2, op := Op.assign (Operand.tmp 109), type := 4, pos := "law.go:98", after := #[{ on := 57, ground := Ground.data }, { on := 56, ground := Ground.chain }, { on := 0, ground := Ground.phase }, { on := 1, ground := Ground.phase }, { on := 2, ground := Ground.phase }, { on := 3, ground := Ground.phase }, { on := 4, ground := Ground.phase }, { on := 5, ground := Ground.phase }, { on := 6, ground := Ground.phase }, { on := 7, ground := Ground.phase }, { on := 8, ground := Ground.phase }, { on := 9, ground := Ground.phase }, { on := 10, ground := Ground.phase }, { on := 11, ground := Ground.phase }, { on := 12, ground := Ground.phase }, { on := 13, ground := Ground.phase }, { on := 14, ground := Ground.phase }, { on := 15, ground := Ground.phase }, { on := 16, ground := Ground.phase }, { on := 17, ground := Ground.phase }, { on := 18, ground := Ground.phase }, { on := 19, ground := Ground.phase }, { on := 20, ground := Ground.phase }, { on := 21, ground := Ground.phase }, { on := 22, ground := Ground.phase }, { on := 23, ground := Ground.phase }, { on := 24, ground := Ground.phase }, { on := 25, ground := Ground.phase }, { on := 26, ground := Ground.phase }, { on := 27, ground := Ground.phase }, { on := 28, ground := Ground.phase }, { on := 29, ground := Ground.phase }, { on := 30, ground := Ground.phase }, { on := 31, ground := Ground.phase }, { on := 32, ground := Ground.phase }, { on := 33, ground := Ground.phase }, { on := 34, ground := Ground.phase }, { on := 35, ground := Ground.phase }, { on := 36, ground := Ground.phase }, { on := 37, ground := Ground.phase }, { on := 38, ground := Ground.phase }, { on := 39, ground := Ground.phase }, { on := 40, ground := Ground.phase }, { on := 41, ground := Ground.phase }, { on := 42, ground := Ground.phase }, { on := 43, ground := Ground.phase }, { on := 44, ground := Ground.phase }, { on := 45, ground := Ground.phase }, { on := 46, ground := Ground.phase }, { on := 47, ground := Ground.phase }, { on := 48, ground := Ground.phase }, { on := 49, ground := Ground.phase }, { on := 50, ground := Ground.phase }, { on := 51, ground := Ground.phase }, { on := 52, ground := Ground.phase }, { on := 53, ground := Ground.phase }, { on := 54, ground := Ground.phase }, { on := 55, ground := Ground.phase }, { on := 56, ground := Ground.phase }, { on := 57, ground := Ground.phase }], guard := none }) (v := .bool true) rfl (by kernel_rfl) (by kernel_rfl) (by kernel_rfl) (fun _ _ _ h => h) (Or.inl ⟨by rfl, ?hy1_58⟩) (by assumption) ?rest1_58
  case hy1_58 => (intro w hSw; (try dsimp only at hSw); go_simp; try with_reducible rfl)
  try simp only [Act.put, List.setIfInBounds_toArray, List.set_cons_zero, List.set_cons_succ]
  refine wpAnyH_done (by kernel_rfl) ?_ _
  go_wp2_with fail
  go_ret
  exact ⟨rfl, H9.out.trans ((hV0.trans (hb4.mono hV0.size) |>.trans (hb5.mono (Nat.le_trans hV0.size hb4.size))).mono H9.out.size)⟩
end Go.Proofs.YtmdaglcpnakjhaaDoor.recordBackDone
namespace Go.Proofs.YtmdaglcpnakjhaaDoor.recordBackDone
open Go.ChangeShapes Go.WideShapes Go.ChangeAt Go.RowKit Mem OM LM DM dg rc
set_option linter.unusedVariables false
set_option maxRecDepth 100000
theorem contract (H : Type) (enc : TypeId × Value → H) (W : World) (base : Nat) (args : Array Value) (ds gs : List (DataW H)) (before : List MemPlace)
    (hval : ∀ (j : Nat) t v, Tryd.f8.params[j]? = some t → args[j]? = some v → Value.okWide Tryd.prog W .any base t v)
    (hW : DataW.Whole enc Tryd.prog Tryd.f8.params.toList Rows.recordBackSpec.vars false W args.toList ds gs before) (hL : laidMetH Tryd.prog Rows.recordBackRow.laid W) :
    Calls Tryd.prog 8 args W fun e W' => ∃ v, e = .returned v ∧ Rows.recordBackSpec.post enc Tryd.prog Tryd.f8 false true false false W args v W' := by
  have hW' := hW
  have hT : Tab W := table rfl hL
  obtain ⟨p, q, hA0, hV, rfl, hfz, hnd⟩ := hW
  have hA : DataW.TrodAll enc Tryd.prog W 0 (fun _ => true) true Tryd.f8.params.toList args.toList ds p := hA0
  rw [Tryd.params8] at hA hval
  obtain ⟨v0, vs0, d0, ds0, p0, q0, hargs, rfl, rfl, h0, r0⟩ := trodAll_cons hA
  obtain ⟨rfl, rfl, rfl⟩ := trodAll_nil r0
  obtain rfl : args = #[v0] := by cases args; simp_all
  obtain ⟨rfl, rfl⟩ := trodVars_none hV
  obtain ⟨a0, n0, c0, rfl⟩ := okWide_slice Tryd.underlying24 (hval 0 24 v0 rfl rfl)
  have k0 := h0
  have lt0 : ∀ x ∈ p0, x.block < W.heap.size := by obtain ⟨m, hm⟩ := k0; exact DataW.trod_lt m _ _ _ hm
  obtain ⟨l0, w0, m0, b0⟩ : ∃ l : List UInt8, Rd W W.heap.size a0 n0 (bv l) ∧ n0 ≤ c0 ∧ n0 ≤ 9223372036854775807 := by
    obtain ⟨fuel, hf⟩ := h0
    rcases open_ints Tryd.underlying24 Tryd.underlying5 (by kernel_rfl) hf with ⟨hcs, _⟩ | ⟨x, l, c, zs, hcs, _, hl, hm, hz, _, hcell, hwz⟩
    · simp [Value.cells] at hcs
      obtain ⟨rfl, rfl, rfl⟩ := hcs
      exact ⟨[], Rd.nil _ _ _, Nat.le_refl _, by omega⟩
    · simp [Value.cells] at hcs
      obtain ⟨rfl, rfl, rfl⟩ := hcs
      unfold maxLen at hm
      obtain ⟨l, hl2⟩ := rd_bytes hl (by simpa using hz) hcell hwz
      exact ⟨l, hl2, hl, by omega⟩
  clear hA0 hval
  refine (walk a0 n0 c0 l0 W hT w0 m0 b0).mono fun e W' ⟨he, bel⟩ => ?_
  subst he
  exact ⟨_, rfl, _, _, _, [], _, [], hW', trodAll_mk1 (shut_bool Tryd.underlying4 _), (trodAll_cons_mk (Below.trod laidOut (by kernel_rfl) (of_decide_eq_true (by kernel_rfl)) k0 bel lt0) trodAll_mk0), rfl, bel.frame _, fun h => by cases h⟩

theorem laid_met (os : Os) : laidMet Tryd.prog Rows.recordBackRow.laid ((laidWorld os).forCall (fun _ _ => 0) ⟨#[], #[.slice none 0 0], []⟩).memory :=
  laidMet_of_run' 8 (by kernel_rfl) (by kernel_rfl)
theorem reads (os : Os) {H : Type} (enc : TypeId × Value → H) : ∃ places, DataW.whole enc Tryd.prog ((laidWorld os).forCall (fun _ _ => 0) ⟨#[], #[.slice none 0 0], []⟩).memory Tryd.f8.params.toList Rows.recordBackSpec.vars false (#[.slice none 0 0] : Array Value).toList 8 = some ([.nil], [], places) :=
  ⟨[], by kernel_rfl⟩
set_option maxRecDepth 100000 in
theorem lifted (os : Os) (started : os.Started) (H : Type) (enc : TypeId × Value → H) (F : Stop.Interp) :
    ReturnsInHanded {} Tryd.checked os 8 .any ((OpenSpec.ofChange Rows.recordBackSpec).preRow enc Tryd.prog Tryd.f8 Rows.recordBackRow.domain false Rows.recordBackRow.laid) (((OpenSpec.ofChange Rows.recordBackSpec).at F).post enc Tryd.prog Tryd.f8 false true false false) := by
  obtain ⟨places, hx⟩ := reads os enc
  refine returnsInHanded_of_row (C := Tryd.checked) (s := OpenSpec.ofChange Rows.recordBackSpec) own started (by kernel_rfl) Tryd.func8
    (witness_row_at (enc := enc) (C := Tryd.checked) false (laidWorld os) #[.slice none 0 0] rfl (by kernel_rfl) (by kernel_rfl) (by kernel_rfl)
      (OpenSpec.preRow_of_cond 8 hx (by kernel_rfl) (fun k hk => by cases hk) (by kernel_rfl) (laid_met os))) ?_
  intro W base args ds gs before hval hW _ _ _ hL _ _
  exact contract H enc W base args ds gs before hval hW hL
theorem said : Rows.RecordBackSaid :=
  OpenClaim.holds_of_cond 8 Tryd.f8 rfl rfl rfl rfl rfl rfl rfl ⟨rfl, rfl, rfl, rfl, rfl⟩ rfl rfl rfl rfl rfl (by kernel_rfl) Tryd.func8 (by kernel_rfl)
    (of_decide_eq_true (by kernel_rfl)) (by unfold Func.isWrapper; first | (rw [if_pos (by decide +kernel)]; kernel_rfl) | (rw [if_neg (by decide +kernel)]; exact ⟨rfl, rfl⟩))
    (fun os started H enc _ F => by rw [OpenClaim.pre_eq_preRow]; exact lifted os started H enc F)
theorem plain (f : FuncId) (fn : Func) (hf : Tryd.pinned.checked.prog.funcNamed "flume/flumelaw10.RecordBack" = some f) (hfn : Tryd.pinned.checked.prog.funcs[f]? = some fn) :
    false = Tryd.pinned.checked.prog.looks [] ∧ ∀ (j : Nat) t, fn.params[j]? = some t → Tryd.pinned.checked.prog.wantsStandIn t = false := by
  obtain rfl : f = 8 := Option.some.inj ((show Tryd.prog.funcNamed "flume/flumelaw10.RecordBack" = some 8 by kernel_rfl).symm.trans hf) |>.symm
  obtain rfl : fn = Tryd.f8 := (Option.some.inj (Tryd.func8.symm.trans hfn)).symm
  refine ⟨by kernel_rfl, fun j t ht => ?_⟩
  rw [Tryd.params8] at ht
  have hm : t ∈ [24] := by simpa using Array.mem_of_getElem? ht
  have hall : ([24].all fun u => !Tryd.prog.wantsStandIn u) = true := by kernel_rfl
  exact (show Tryd.prog.wantsStandIn t = false by simpa using List.all_eq_true.1 hall t hm)
/-- the given statement -/
theorem proved : Rows.RecordBackCardSaid :=
  Claim7.holds_tied_plain_at .later [] _ _ _ _ said (fun _ h => by cases h) (by kernel_rfl) (fun _ h => by cases h) recordBack_row_tie rfl ⟨rfl, rfl⟩ (by kernel_rfl) rfl plain (by kernel_rfl)
#print axioms proved
end Go.Proofs.YtmdaglcpnakjhaaDoor.recordBackDone
