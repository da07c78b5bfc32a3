/- RecordTrue: for every input the law answers true and leaves its arguments as they were; the table that the program lays is tied to its text. -/
import Derived.Test.YtmdaglcpnakjhaaDoorRcP
namespace Go.Proofs.YtmdaglcpnakjhaaDoor.recordTrueDone
open Go.RowKit Mem OM LM DM dg rc
set_option maxRecDepth 20000
set_option linter.unusedSimpArgs false
attribute [local go_sem] Oper.semAt_some
theorem openR_err (K S : Int) (d x : List UInt8) (h : (openR K S d x).2 ≠ 0) : (openR K S d x).1 = [] := by
  unfold openR at h ⊢
  split
  · rfl
  · split
    · rfl
    · split
      · rfl
      · split
        · rfl
        · rename_i h1 h2 h3 h4
          rw [if_neg h1, if_neg h2, if_neg h3, if_neg h4] at h
          exact absurd rfl h
theorem openR_ok (K S : Int) (d x : List UInt8) (h : (openR K S d x).2 = 0) : digest (openR K S d x).1 = d ∧ (((openR K S d x).1.length : Nat) : Int) = S ∧ S ≤ 256 := by
  unfold openR at h ⊢
  by_cases h1 : chk K S x.length ≠ 0
  · rw [if_pos h1] at h; simp at h
  rw [if_neg h1] at h ⊢
  by_cases h2 : K = 1
  · rw [if_pos h2] at h; simp at h
  rw [if_neg h2] at h ⊢
  by_cases h3 : (carR K S x).2 ≠ 0
  · rw [if_pos h3] at h; simp at h
  rw [if_neg h3] at h ⊢
  by_cases h4 : digest (carR K S x).1 ≠ d
  · rw [if_pos h4] at h; simp at h
  rw [if_neg h4]
  have hc : chk K S x.length = 0 := by omega
  have hS := chk_size hc
  refine ⟨by simpa using h4, ?_, hS⟩
  unfold carR at h3 ⊢
  by_cases h5 : K = 2
  · rw [if_pos h5]
    unfold chk fitsR fitsD at hc
    rw [if_neg h2, if_pos h5] at hc
    by_cases h6 : (x.length : Int) = S
    · exact h6
    · rw [decide_eq_false h6] at hc; simp at hc
  · rw [if_neg h5] at h3 ⊢
    by_cases h6 : (reB x S).2 ≠ 0 ∨ ¬ ((reB x S).1.length : Int) = S
    · rw [if_pos h6] at h3; simp at h3
    · rw [if_neg h6]
      exact Classical.byContradiction fun q => h6 (Or.inr q)
theorem openR_other (K S : Int) (d d' x : List UInt8) (h : (openR K S d x).2 = 0) (hne : d' ≠ d) : openR K S d' x = ([], 111) := by
  have hd := (openR_ok K S d x h).1
  unfold openR at h hd ⊢
  by_cases h1 : chk K S x.length ≠ 0
  · rw [if_pos h1] at h; simp at h
  rw [if_neg h1] at h hd ⊢
  by_cases h2 : K = 1
  · rw [if_pos h2] at h; simp at h
  rw [if_neg h2] at h hd ⊢
  by_cases h3 : (carR K S x).2 ≠ 0
  · rw [if_pos h3] at h; simp at h
  rw [if_neg h3] at h hd ⊢
  by_cases h4 : digest (carR K S x).1 ≠ d
  · rw [if_pos h4] at h; simp at h
  rw [if_neg h4] at hd
  have h5 : digest (carR K S x).1 = d := by simpa using h4
  rw [h5, if_pos (fun e => hne e.symm)]
theorem xor_one (x : UInt8) : bits BinOp.xor IntKind.u8 (x.toNat : Int) 1 = ((x ^^^ 1).toNat : Int) := by
  have key : ∀ n : Fin 256, bits BinOp.xor IntKind.u8 ((n.val : Nat) : Int) 1 = ((UInt8.ofNat n.val ^^^ 1).toNat : Int) := by decide +kernel
  have := key ⟨x.toNat, x.toNat_lt⟩
  simpa using this
theorem xor_ne (x : UInt8) : x ^^^ 1 ≠ x := by
  intro h
  have : x ^^^ (x ^^^ 1) = 1 := by rw [← UInt8.xor_assoc, UInt8.xor_self, UInt8.zero_xor]
  rw [h, UInt8.xor_self] at this
  exact absurd this (by decide)
theorem recL_set {K S : Int} {d : List UInt8} {A : Option Addr} {n c : Nat} (j : Nat) (b : UInt8) (hj : j < d.length) : (recL K S d A n c).set (2 + j) (.int .u8 (b.toNat : Int)) = recL K S (d.set j b) A n c := by
  unfold recL
  rw [show 2 + j = j + 1 + 1 by omega, List.set_cons_succ, List.set_cons_succ, List.set_append_left _ _ (by rw [bv_len]; exact hj), bv_set]
set_option maxHeartbeats 8000000 in
theorem walk (K S : Int) (d l : List UInt8) (A : Option Addr) (n c : Nat) (at0 : Int) (w : World) (hT : Tab w) (hd : d.length = 32) (hr : Rd w w.heap.size A n (bv l)) (_hc : n ≤ c) (hn : n ≤ 9223372036854775807) (_hK : -9223372036854775808 ≤ K ∧ K ≤ 9223372036854775807) (hS : -9223372036854775808 ≤ S ∧ S ≤ 9223372036854775807) (_hat : (Lit.int .i64 at0).wf = true) :
    Calls Tryd.prog 10 #[.agg (recL K S d A n c).toArray, .int .i64 at0] w fun e w' => e = .returned (.bool true) ∧ Below w.heap.size w w' := by
  have hl : l.length = n := by rw [← hr.len, bv_len]
  have hrg := dg.range_new w (recL K S d A n c) 26
  have hb : Below w.heap.size w (w.alloc (.cells (recL K S d A n c).toArray 26)) := (Below.refl _ _).alloc (Nat.le_refl _) _
  have hlt : w.heap.size < (w.alloc (.cells (recL K S d A n c).toArray 26)).heap.size := by simp
  have hinfR : (Tryd.prog.info? 26).map (·.size) = some (recL K S d A n c).length := by rw [recL_len hd]; exact info_rec
  have c34 : (w.alloc (.cells (recL K S d A n c).toArray 26)).cell? ⟨w.heap.size, 34, none⟩ = some (.slice A n c) := by have := hrg 34 _ (recL_34 hd); rwa [Nat.zero_add] at this
  have hone : (recL K S d A n c).toArray.all (·.oneCell') = true := all_oneCell_toArray rec_one
  have hsz : (recL K S d A n c).toArray.size = 35 := by rw [List.size_toArray, recL_len hd]
  obtain ⟨RL, hRL⟩ : ∃ z, recL K S d A n c = z := ⟨_, rfl⟩
  rw [hRL] at hrg hb hlt hinfR c34 hone hsz ⊢
  obtain ⟨RA, hRA⟩ : ∃ z, RL.toArray = z := ⟨_, rfl⟩
  rw [hRA] at hrg hb hlt c34 hone hsz ⊢
  obtain ⟨W, hW⟩ : ∃ z, w.alloc (.cells RA 26) = z := ⟨_, rfl⟩
  rw [hW] at hrg hb hlt c34
  obtain ⟨g2, hg2e⟩ : ∃ z, w.heap.size = z := ⟨_, rfl⟩
  have HG := Lib.hid hg2e
  have HT := Lib.hid hT
  have HL := Lib.hid (And.intro hl (And.intro hr (And.intro hRL hRA)))
  clear hT hl hr
  by_cases hbig : 4096 < n
  · have h1i : (4096 : Int) < n := by omega
    rw [hg2e] at hrg hb hlt c34 ⊢
    clear hRL hRA
    go_enter Tryd.func10, Tryd.ntmps10
    go_upto_region 1 with fail
    try rw [hW]
    try rw [hg2e]
    go_wp2_with (go_at_call 12; refine (rc.awake_any _ (HT.out.below (by rw [HG.out]; exact hb))).mono ?_; rintro e w1 ⟨rfl, hb1⟩)
    go_ret
    exact ⟨rfl, hb.trans (hb1.mono (Nat.le_of_lt hlt))⟩
  have hbi : ¬ (4096 : Int) < n := by omega
  have hop := open_any K S d hd A n c _ l W (HL.out.2.1.below hb (Nat.le_refl _)) (Nat.le_of_lt hlt) (by omega) hS (HT.out.below hb)
  rw [hRL, hRA] at hop
  unfold MadeE at hop
  rw [hg2e] at hrg hb hlt c34 ⊢
  have HOP := Lib.hid hop
  clear hop
  by_cases hok : (openR K S d l).2 = 0
  case neg =>
    have he := openR_err K S d l hok
    obtain ⟨er, her⟩ : ∃ er, (openR K S d l).2 = er := ⟨_, rfl⟩
    rw [her, he] at HOP
    rw [her] at hok
    have hei : ((er : Int) != 0) = true := bne_iff_ne.2 (by omega)
    clear hRL her he hRA
    go_enter Tryd.func10, Tryd.ntmps10
    go_upto_region 1 with fail
    try rw [hW]
    try rw [hg2e]
    go_upto_region 4 with (first
      | (refine wpList_load_mid rfl 26 (.tmp 2) rfl g2 0 rfl RL _ hrg Tryd.underlying26 rfl hinfR ?_; rw [HL.out.2.2.2])
      | (go_at_call 22; refine (HOP.out).mono ?_; rintro e w3 ⟨A3, n3, c3, rfl, ho3, hb3⟩)
      | fail)
    have hn3 : n3 = 0 := by have := ho3.len; rw [bv_len] at this; exact this.symm
    subst hn3
    have hb03 : Below g2 w w3 := hb.trans (hb3.mono (Nat.le_of_lt hlt))
    go_wp2_with (go_at_call 12; refine (rc.awake_any _ (HT.out.below (by rw [HG.out]; exact hb03))).mono ?_; rintro e w4 ⟨rfl, hb4⟩)
    go_ret
    exact ⟨rfl, hb03.trans (hb4.mono (Nat.le_trans (Nat.le_of_lt hlt) hb3.size))⟩
  have hdok := openR_ok K S d l hok
  obtain ⟨y, hy⟩ : ∃ y, (openR K S d l).1 = y := ⟨_, rfl⟩
  rw [hy] at hdok HOP
  rw [hok] at HOP
  obtain ⟨hdy, hlen, hS256⟩ := hdok
  -- the place that is turned
  obtain ⟨a, ha⟩ : ∃ a : Nat, IntKind.u64.wrap at0 = (a : Int) := ⟨(IntKind.u64.wrap at0).toNat, by rw [Int.toNat_of_nonneg (wrap_u64_nonneg at0)]⟩
  obtain ⟨j, hj⟩ : ∃ j, j = a % 32 := ⟨_, rfl⟩
  have hj32 : j < 32 := by omega
  have hj3 : (a : Int) % 32 = (j : Int) := by omega
  have hjd : j < d.length := by omega
  obtain ⟨b, hbj⟩ : ∃ b, d[j] = b := ⟨_, rfl⟩
  have hne : d.set j (b ^^^ 1) ≠ d := fun e => by
    have h1 : (d.set j (b ^^^ 1))[j]'(by simpa using hjd) = b ^^^ 1 := by simp
    have h2 : (d.set j (b ^^^ 1))[j]'(by simpa using hjd) = b := by
      have := List.getElem_of_eq e (i := j) (by simpa using hjd)
      rw [this, hbj]
    exact xor_ne b (h1.symm.trans h2)
  have hot := openR_other K S d (d.set j (b ^^^ 1)) l hok hne
  have hd' : (d.set j (b ^^^ 1)).length = 32 := by simpa using hd
  have hrs : RL[2 + j]? = some (.int .u8 (b.toNat : Int)) := by
    rw [← hRL]
    unfold recL
    rw [show 2 + j = j + 1 + 1 by omega, List.getElem?_cons_succ, List.getElem?_cons_succ, List.getElem?_append_left (by rw [bv_len]; exact hjd), bv_at d j hjd, hbj]
  have hset : RL.set (2 + j) (.int .u8 ((b ^^^ 1).toNat : Int)) = recL K S (d.set j (b ^^^ 1)) A n c := by rw [← hRL]; exact recL_set j (b ^^^ 1) hjd
  have hxor := xor_one b
  obtain ⟨d', hd'e⟩ : ∃ z, d.set j (b ^^^ 1) = z := ⟨_, rfl⟩
  rw [hd'e] at hot hd' hset
  have HX := Lib.hid (And.intro hset (And.intro hot hxor))
  have HD := Lib.hid (And.intro hdy (And.intro hlen hS256))
  have hinfS : (Tryd.prog.info? 23).map (·.size) = some (bv d).length := by rw [bv_len, hd]; kernel_rfl
  have HRA := Lib.hid hRA
  clear hne hot hd'e hset hbj hok hy hdy hlen hRL hj hRA hxor
  go_enter Tryd.func10, Tryd.ntmps10
  go_upto_region 1 with fail
  try rw [hW]
  try rw [hg2e]
  go_upto_region 6 with (first
    | (refine wpList_load_mid rfl 26 (.tmp 2) rfl g2 0 rfl RL _ hrg Tryd.underlying26 rfl hinfR ?_; rw [HRA.out])
    | (go_at_call 22; refine (HOP.out).mono ?_; rintro e w3 ⟨A5, n5, c5, rfl, ho3, hb3⟩)
    | fail)
  have hb03 : Below g2 w w3 := hb.trans (hb3.mono (Nat.le_of_lt hlt))
  have hr3 := dg.range_below hrg hb3 hlt
  have hlt3 : g2 < w3.heap.size := Nat.lt_of_lt_of_le hlt hb3.size
  go_upto_region 7 with (first
    | (refine wpList_load_mid rfl 26 (.tmp 2) rfl g2 0 rfl RL _ hr3 Tryd.underlying26 rfl hinfR ?_; rw [HRA.out])
    | (refine wpList_store_mid rfl 26 (.tmp 7) (.tmp 28) rfl w3.heap.size 0 RA rfl rfl (by rw [hsz]; exact rec_zero_there w3) (by rw [hsz]; exact info_rec) hone ?_)
    | fail)
  show Code.wp _ _ _ _ ((w3.alloc (.cells recZ.toArray 26)).setCells w3.heap.size 0 RA.toList)
  have hst := rec_stored (K := K) (S := S) (A := A) (n := n) (c := c) hd w3
  rw [HL.out.2.2.1] at hst
  rw [show RA.toList = RL by rw [← HRA.out]]
  obtain ⟨w4, hw4⟩ : ∃ z, (w3.alloc (.cells recZ.toArray 26)).setCells w3.heap.size 0 RL = z := ⟨_, rfl⟩
  rw [hw4] at hst ⊢
  obtain ⟨g7, hg7e⟩ : ∃ z, w3.heap.size = z := ⟨_, rfl⟩
  have hb34 := hst.2.2.1
  have hg74 := hst.2.2.2
  have hr47 := hst.1
  have ht47 := hst.2.1
  have ho4 := ho3.below hb34 (Nat.le_refl _)
  have hb04 : Below g2 w w4 := hb03.trans (hb34.mono (Nat.le_of_lt hlt3))
  rw [hg7e] at hg74 hr47 ht47 ⊢
  have hg27 : g2 < g7 := by rw [← hg7e]; exact hlt3
  have hr24 := dg.range_below hr3 hb34 hlt3
  have hcb : w4.cell? ⟨g7, 2 + j, none⟩ = some (.int .u8 (b.toNat : Int)) := by have := hr47 (2 + j) _ hrs; rwa [Nat.zero_add] at this
  have hfz : w4.frozen? ⟨g7, 2 + j, none⟩ = false := by have := (ht47 (2 + j) (by omega)).2; rwa [Nat.zero_add] at this
  have hg24 : g2 < w4.heap.size := Nat.lt_trans hg27 hg74
  have hr57 := range_set1 hr47 (2 + j) (.int .u8 ((b ^^^ 1).toNat : Int))
  rw [HX.out.1] at hr57
  have hk1 := dg.Keep1.set w4 g7 (2 + j) (.int .u8 ((b ^^^ 1).toNat : Int))
  have hr25 := dg.range_keep hr24 hk1 hg24 (by omega)
  have hb05 := hk1.below hb04 (Nat.le_of_lt hg24) (Nat.le_of_lt hg27)
  have ho5 : Ow (w4.setCell ⟨g7, 2 + j, none⟩ (.int .u8 ((b ^^^ 1).toNat : Int))) W.heap.size 5 A5 n5 c5 (bv y) := by
    refine Mem.Ow.kept (row := some g7) ho4 ⟨hk1.os, hk1.tape, hk1.output, hk1.size, fun k hlt hn => hk1.block k hlt (fun e => hn (by rw [e]))⟩ ?_
    cases hA : blk A5 with
    | none => exact Or.inl rfl
    | some a => exact Or.inr (fun e => by have := (ho3.blk_lt a hA).2; injection e with e; omega)
  have hxor := HX.out.2.2
  obtain ⟨bx, hbx⟩ : ∃ z, (((b ^^^ 1).toNat : Nat) : Int) = z := ⟨_, rfl⟩
  rw [hbx] at hr57 hr25 hb05 ho5 hk1 hxor
  obtain ⟨by0, hby0⟩ : ∃ z, ((b.toNat : Nat) : Int) = z := ⟨_, rfl⟩
  rw [hby0] at hcb hxor
  clear hst hr3 hr24 hb34 hb03 ho3 ho4 hb04 hr47 ht47 hg7e hw4 hbx hby0 hrs hrg hb c34
  go_upto_region 8 with fail
  obtain ⟨w5, hw5⟩ : ∃ z, w4.setCell ⟨g7, 2 + j, none⟩ (.int .u8 bx) = z := ⟨_, rfl⟩
  rw [hw5] at hr57 hr25 hb05 ho5 hk1 ⊢
  have hg75 : g7 < w5.heap.size := Nat.lt_of_lt_of_le hg74 hk1.size
  have hg25 : g2 < w5.heap.size := Nat.lt_trans hg27 hg75
  have hrl := HL.out.2.1.below (B' := w.heap.size) (by rw [HG.out]; exact hb05) (Nat.le_refl _)
  have hop2 := open_any K S d' hd' A n c _ l w5 hrl (by rw [HG.out]; exact Nat.le_of_lt hg25) (by omega) hS (HT.out.below (by rw [HG.out]; exact hb05))
  rw [HX.out.2.1] at hop2
  unfold MadeE at hop2
  have hinf' : (Tryd.prog.info? 26).map (·.size) = some (recL K S d' A n c).length := by rw [recL_len hd']; exact info_rec
  obtain ⟨RL', hRL'⟩ : ∃ z, recL K S d' A n c = z := ⟨_, rfl⟩
  rw [hRL'] at hr57 hop2 hinf'
  obtain ⟨RA', hRA'⟩ : ∃ z, RL'.toArray = z := ⟨_, rfl⟩
  rw [hRA'] at hop2
  have HOP2 := Lib.hid hop2
  have HRA' := Lib.hid hRA'
  have H5 := Lib.hid (And.intro hb05 (And.intro ho5 hr25))
  clear hop2 hRA' hRL' hb05 ho5 hr25 hk1 hw5 hcb hfz hxor HOP
  go_upto_region 9 with (first
    | (refine wpList_load_mid rfl 26 (.tmp 7) rfl g7 0 rfl RL' _ hr57 Tryd.underlying26 rfl hinf' ?_; rw [HRA'.out])
    | (go_at_call 22; refine (HOP2.out).mono ?_; rintro e X ⟨A8, n8, c8, rfl, ho8, hb8⟩)
    | fail)
  have hn8 : n8 = 0 := by have := ho8.len; rw [bv_len] at this; exact this.symm
  subst hn8
  have hb0X : Below g2 w X := H5.out.1.trans (hb8.mono (Nat.le_of_lt hg25))
  have hg2 : g2 < X.heap.size := Nat.lt_of_lt_of_le hg25 hb8.size
  have hr2X := dg.range_below H5.out.2.2 hb8 hg25
  rw [← HL.out.2.2.1] at hr2X
  have hoX := H5.out.2.1.below hb8 (Nat.le_refl _)
  have hly : y.length = n5 := by have := hoX.len; rw [bv_len] at this; exact this
  have hSn : S = (n5 : Nat) := by rw [← hly]; exact HD.out.2.1.symm
  have c21 : X.cell? ⟨g2, 1, none⟩ = some (.int .i64 (n5 : Nat)) := by rw [← hSn]; exact hr2X 1 _ rfl
  have hs2 := rec_sum hr2X
  have hcap := hoX.cap.1
  have HP := Lib.hid (And.intro hs2 hoX.rd)
  have H9 := Lib.hid hb0X
  have HT2 : Hid (∀ y, Below X.heap.size X y → dg.Tab y) := Lib.hid (fun y hy => HT.out.below (by rw [HG.out]; exact hb0X.trans (hy.mono (Nat.le_of_lt hg2))))
  have hse := fun y => dg.sum_equal d d hd hd y
  rw [decide_eq_true rfl] at hse
  have HSE := Lib.hid hse
  have hof : ∀ z, Below X.heap.size X z → Calls Tryd.prog 29 #[.slice (some ⟨z.heap.size, 0, none⟩) 1 1] (z.alloc (.cells #[.slice A5 n5 c5] 24)) fun e w' => e = .returned (.agg (bv d).toArray) ∧ Below (z.alloc (.cells #[.slice A5 n5 c5] 24)).heap.size (z.alloc (.cells #[.slice A5 n5 c5] 24)) w' := fun z hz => by
    have hy2 : Below X.heap.size X (z.alloc (.cells #[.slice A5 n5 c5] 24)) := hz.alloc hz.size _
    have hp := dg.Parts.one (HP.out.2.below hz (Nat.le_refl _)) hcap hz.size 24
    have hof := dg.of_any _ 1 1 _ _ _ (HT2.out _ hy2) hp (by simp) (by omega) (by rw [dg.tot_flat]; have := HD.out.2.1; have := HD.out.2.2; simp; omega)
    rw [show [y].flatten = y by simp, HD.out.1] at hof
    exact hof
  have HOFA := Lib.hid hof
  clear hof hse hs2 hr2X hb8 ho8 hoX hb0X hly hr57 HOP2
  have hS0 : Below X.heap.size X X.drew := lz.below_drew (Below.refl _ _)
  obtain ⟨wq, hwq⟩ : ∃ z, X.drew = z := ⟨_, rfl⟩
  have HS := Lib.hid hS0
  have HOF := Lib.hid (fun (_ : Unit) => HOFA.out _ hS0)
  rw [hwq] at HS HOF
  subst hSn
  refine wp_region_held_drew (S := fun y => Below X.heap.size X y) (by kernel_rfl) hS0 (fun hHeld => ?_)
  rw [hwq] at hHeld ⊢
  clear hwq hS0 HOFA
  refine wpAnyH_take (i := 0) (oi := { dst := some 44, op := Op.move (Operand.tmp 5), type := 24, pos := "law.go:133", after := #[], guard := none }) (v := .slice A5 n5 c5) rfl (by kernel_rfl) (by kernel_rfl) (by kernel_rfl) (fun _ _ _ h => h) (Or.inl ⟨by rfl, ?hy51_0⟩) (by assumption) ?rest51_0
  case hy51_0 => (intro w hSw; (try dsimp only at hSw); go_simp; try with_reducible rfl)
  try simp only [Act.put, List.setIfInBounds_toArray, List.set_cons_zero, List.set_cons_succ]
  refine wpAnyH_take (i := 1) (oi := { dst := some 45, op := Op.call { callee := Callee.builtin Builtin.len, args := #[Operand.tmp 44], argTypes := #[24] }, type := 3, pos := "law.go:133", after := #[{ on := 0, ground := Ground.data }], guard := none }) (v := .int .i64 n5) rfl (by kernel_rfl) (by kernel_rfl) (by kernel_rfl) (fun _ _ _ h => h) (Or.inl ⟨by rfl, ?hy51_1⟩) (by assumption) ?rest51_1
  case hy51_1 => (intro w hSw; (try dsimp only at hSw); go_simp; try with_reducible rfl)
  try simp only [Act.put, List.setIfInBounds_toArray, List.set_cons_zero, List.set_cons_succ]
  refine wpAnyH_take (i := 2) (oi := { dst := some 46, op := Op.fieldAddr 26 (Operand.tmp 2) 1, type := 0, pos := "law.go:133", after := #[], guard := none }) (v := .pointer (some ⟨g2, 1, none⟩)) rfl (by kernel_rfl) (by kernel_rfl) (by kernel_rfl) (fun _ _ _ h => h) (Or.inl ⟨by rfl, ?hy51_2⟩) (by assumption) ?rest51_2
  case hy51_2 => (intro w hSw; (try dsimp only at hSw); go_simp; try with_reducible rfl)
  try simp only [Act.put, List.setIfInBounds_toArray, List.set_cons_zero, List.set_cons_succ]
  refine wpAnyH_take (i := 3) (oi := { dst := some 47, op := Op.load 3 (Operand.tmp 46), type := 3, pos := "law.go:133", after := #[{ on := 2, ground := Ground.data }], guard := none }) (v := .int .i64 n5) rfl (by kernel_rfl) (by kernel_rfl) (by kernel_rfl) (fun _ _ _ h => h) (Or.inl ⟨by rfl, ?hy51_3⟩) (by assumption) ?rest51_3
  case hy51_3 => (intro w hSw; have hq := (Below.cell hSw (p := ⟨g2, 1, none⟩) hg2).trans c21; go_simp; try with_reducible rfl)
  try simp only [Act.put, List.setIfInBounds_toArray, List.set_cons_zero, List.set_cons_succ]
  refine wpAnyH_take (i := 4) (oi := { dst := some 48, op := Op.binOp BinOp.eql 3 (Operand.tmp 45) (Operand.tmp 47) 3, type := 4, pos := "law.go:133", after := #[{ on := 1, ground := Ground.data }, { on := 3, ground := Ground.data }], guard := none }) (v := .bool true) rfl (by kernel_rfl) (by kernel_rfl) (by kernel_rfl) (fun _ _ _ h => h) (Or.inl ⟨by rfl, ?hy51_4⟩) (by assumption) ?rest51_4
  case hy51_4 => (intro w hSw; (try dsimp only at hSw); go_simp; try with_reducible rfl)
  try simp only [Act.put, List.setIfInBounds_toArray, List.set_cons_zero, List.set_cons_succ]
  refine wpAnyH_take (i := 5) (oi := { dst := some 49, op := Op.move (Operand.tmp 48), type := 4, pos := "law.go:133", after := #[{ on := 4, ground := Ground.data }], guard := none }) (v := .bool true) rfl (by kernel_rfl) (by kernel_rfl) (by kernel_rfl) (fun _ _ _ h => h) (Or.inl ⟨by rfl, ?hy51_5⟩) (by assumption) ?rest51_5
  case hy51_5 => (intro w hSw; (try dsimp only at hSw); go_simp; try with_reducible rfl)
  try simp only [Act.put, List.setIfInBounds_toArray, List.set_cons_zero, List.set_cons_succ]
  refine wpAnyH_take (i := 6) (oi := { dst := some 50, op := Op.move (Operand.tmp 5), type := 24, pos := "law.go:133", after := #[{ on := 5, ground := Ground.guard }], guard := some (5, true) }) (v := .slice A5 n5 c5) rfl (by kernel_rfl) (by kernel_rfl) (by kernel_rfl) (fun _ _ _ h => h) (Or.inl ⟨by rfl, ?hy51_6⟩) (by assumption) ?rest51_6
  case hy51_6 => (intro w hSw; (try dsimp only at hSw); go_simp; try with_reducible rfl)
  try simp only [Act.put, List.setIfInBounds_toArray, List.set_cons_zero, List.set_cons_succ]
  refine wpAnyH_take (i := 9) (oi := { dst := some 53, op := Op.fieldAddr 26 (Operand.tmp 2) 2, type := 0, pos := "law.go:133", after := #[{ on := 5, ground := Ground.guard }], guard := some (5, true) }) (v := .pointer (some ⟨g2, 2, none⟩)) rfl (by kernel_rfl) (by kernel_rfl) (by kernel_rfl) (fun _ _ _ h => h) (Or.inl ⟨by rfl, ?hy51_9⟩) (by assumption) ?rest51_9
  case hy51_9 => (intro w hSw; (try dsimp only at hSw); go_simp; try with_reducible rfl)
  try simp only [Act.put, List.setIfInBounds_toArray, List.set_cons_zero, List.set_cons_succ]
  refine wpAnyH_take (i := 10) (oi := { dst := some 54, op := Op.load 23 (Operand.tmp 53), type := 23, pos := "law.go:133", after := #[{ on := 9, ground := Ground.data }, { on := 5, ground := Ground.guard }], guard := some (5, true) }) (v := .agg (bv d).toArray) rfl (by kernel_rfl) (by kernel_rfl) (by kernel_rfl) (fun _ _ _ h => h) ?hy51_10 (by assumption) ?rest51_10
  case hy51_10 => exact yieldsIf_load_mid (by rfl) 23 (.tmp 53) rfl g2 2 rfl (bv d) _ (fun y hy => dg.range_below HP.out.1 hy hg2) Tryd.underlying23 rfl hinfS
  try simp only [Act.put, List.setIfInBounds_toArray, List.set_cons_zero, List.set_cons_succ]
  refine wpAnyH_ready (rs := [7]) (by kernel_rfl) (by simp) ?_
  refine AllReadyH.cons (o := { dst := some 51, op := Op.buildSlice 82 1 #[(0, Operand.tmp 50)], type := 82, pos := "law.go:133", after := #[{ on := 6, ground := Ground.data }, { on := 5, ground := Ground.guard }], guard := some (5, true) }) rfl (fun K hK => ?_) AllReadyH.nil
  go_simp
  have hV0 : Below X.heap.size X (wq.alloc (.cells #[.slice A5 n5 c5] 24)) := (HS.out).alloc (HS.out).size _
  refine hK.out _ _ hV0 (fun _ => ?_)
  clear hK K
  try simp only [Act.put, List.setIfInBounds_toArray, List.set_cons_zero, List.set_cons_succ]
  refine wpAnyH_ready (rs := [8]) (by kernel_rfl) (by simp) ?_
  refine AllReadyH.cons (o := { dst := some 52, op := Op.call { callee := Callee.value (Operand.func 29), args := #[Operand.tmp 51], argTypes := #[82] }, type := 23, pos := "law.go:133", after := #[{ on := 7, ground := Ground.data }, { on := 5, ground := Ground.chain }, { on := 5, ground := Ground.guard }], guard := some (5, true) }) rfl (fun K hK => ?_) AllReadyH.nil
  go_simp
  refine (HOF.out ()).mono ?_
  rintro e w4 ⟨rfl, hb4⟩
  refine hK.out _ _ (hV0.trans (hb4.mono hV0.size)) (fun _ => ?_)
  clear hK K
  try simp only [Act.put, List.setIfInBounds_toArray, List.set_cons_zero, List.set_cons_succ]
  refine wpAnyH_take (i := 11) (oi := { dst := some 55, op := Op.binOp BinOp.eql 23 (Operand.tmp 52) (Operand.tmp 54) 23, type := 4, pos := "law.go:133", after := #[{ on := 8, ground := Ground.data }, { on := 10, ground := Ground.data }, { on := 5, ground := Ground.guard }], guard := some (5, true) }) (v := .bool true) rfl (by kernel_rfl) (by kernel_rfl) (by kernel_rfl) (fun _ _ _ h => h) (Or.inl ⟨by rfl, ?hy51_11⟩) (by assumption) ?rest51_11
  case hy51_11 => (intro w hSw; (try dsimp only at hSw); go_simp; try (rw [HSE.out]; rfl))
  try simp only [Act.put, List.setIfInBounds_toArray, List.set_cons_zero, List.set_cons_succ]
  refine wpAnyH_take (i := 12) (oi := { dst := some 56, op := Op.pick (Operand.tmp 49) (Operand.tmp 55) (Operand.const (Value.bool false)), type := 4, pos := "law.go:133", after := #[{ on := 5, ground := Ground.data }, { on := 11, ground := Ground.data }], guard := none }) (v := .bool true) rfl (by kernel_rfl) (by kernel_rfl) (by kernel_rfl) (fun _ _ _ h => h) (Or.inl ⟨by rfl, ?hy51_12⟩) (by assumption) ?rest51_12
  case hy51_12 => (intro w hSw; (try dsimp only at hSw); go_simp; try with_reducible rfl)
  try simp only [Act.put, List.setIfInBounds_toArray, List.set_cons_zero, List.set_cons_succ]
  refine wpAnyH_take (i := 13) (oi := { dst := some 57, op := Op.move (Operand.tmp 56), type := 4, pos := "law.go:133", after := #[{ on := 12, ground := Ground.data }, { on := 8, ground := Ground.chain }], guard := none }) (v := .bool true) rfl (by kernel_rfl) (by kernel_rfl) (by kernel_rfl) (fun _ _ _ h => h) (Or.inl ⟨by rfl, ?hy51_13⟩) (by assumption) ?rest51_13
  case hy51_13 => (intro w hSw; (try dsimp only at hSw); go_simp; try with_reducible rfl)
  try simp only [Act.put, List.setIfInBounds_toArray, List.set_cons_zero, List.set_cons_succ]
  refine wpAnyH_take (i := 14) (oi := { dst := some 58, op := Op.move (Operand.tmp 9), type := 30, pos := "law.go:133", after := #[{ on := 13, ground := Ground.guard }], guard := some (13, true) }) (v := .int .i64 111) rfl (by kernel_rfl) (by kernel_rfl) (by kernel_rfl) (fun _ _ _ h => h) (Or.inl ⟨by rfl, ?hy51_14⟩) (by assumption) ?rest51_14
  case hy51_14 => (intro w hSw; (try dsimp only at hSw); go_simp; try with_reducible rfl)
  try simp only [Act.put, List.setIfInBounds_toArray, List.set_cons_zero, List.set_cons_succ]
  refine wpAnyH_take (i := 15) (oi := { dst := some 59, op := Op.binOp BinOp.eql 30 (Operand.tmp 58) (Operand.const (Value.int IntKind.i64 111)) 30, type := 4, pos := "law.go:133", after := #[{ on := 14, ground := Ground.data }, { on := 13, ground := Ground.guard }], guard := some (13, true) }) (v := .bool true) rfl (by kernel_rfl) (by kernel_rfl) (by kernel_rfl) (fun _ _ _ h => h) (Or.inl ⟨by rfl, ?hy51_15⟩) (by assumption) ?rest51_15
  case hy51_15 => (intro w hSw; (try dsimp only at hSw); go_simp; try with_reducible rfl)
  try simp only [Act.put, List.setIfInBounds_toArray, List.set_cons_zero, List.set_cons_succ]
  refine wpAnyH_take (i := 16) (oi := { dst := some 60, op := Op.pick (Operand.tmp 57) (Operand.tmp 59) (Operand.const (Value.bool false)), type := 4, pos := "law.go:133", after := #[{ on := 13, ground := Ground.data }, { on := 15, ground := Ground.data }], guard := none }) (v := .bool true) rfl (by kernel_rfl) (by kernel_rfl) (by kernel_rfl) (fun _ _ _ h => h) (Or.inl ⟨by rfl, ?hy51_16⟩) (by assumption) ?rest51_16
  case hy51_16 => (intro w hSw; (try dsimp only at hSw); go_simp; try with_reducible rfl)
  try simp only [Act.put, List.setIfInBounds_toArray, List.set_cons_zero, List.set_cons_succ]
  refine wpAnyH_take (i := 17) (oi := { dst := some 61, op := Op.move (Operand.tmp 60), type := 4, pos := "law.go:133", after := #[{ on := 16, ground := Ground.data }, { on := 13, ground := Ground.chain }], guard := none }) (v := .bool true) rfl (by kernel_rfl) (by kernel_rfl) (by kernel_rfl) (fun _ _ _ h => h) (Or.inl ⟨by rfl, ?hy51_17⟩) (by assumption) ?rest51_17
  case hy51_17 => (intro w hSw; (try dsimp only at hSw); go_simp; try with_reducible rfl)
  try simp only [Act.put, List.setIfInBounds_toArray, List.set_cons_zero, List.set_cons_succ]
  refine wpAnyH_take (i := 18) (oi := { dst := some 62, op := Op.move (Operand.tmp 8), type := 24, pos := "law.go:133", after := #[{ on := 17, ground := Ground.guard }], guard := some (17, true) }) (v := .slice A8 0 c8) rfl (by kernel_rfl) (by kernel_rfl) (by kernel_rfl) (fun _ _ _ h => h) (Or.inl ⟨by rfl, ?hy51_18⟩) (by assumption) ?rest51_18
  case hy51_18 => (intro w hSw; (try dsimp only at hSw); go_simp; try with_reducible rfl)
  try simp only [Act.put, List.setIfInBounds_toArray, List.set_cons_zero, List.set_cons_succ]
  refine wpAnyH_take (i := 19) (oi := { dst := some 63, op := Op.call { callee := Callee.builtin Builtin.len, args := #[Operand.tmp 62], argTypes := #[24] }, type := 3, pos := "law.go:133", after := #[{ on := 18, ground := Ground.data }, { on := 17, ground := Ground.guard }], guard := some (17, true) }) (v := .int .i64 0) rfl (by kernel_rfl) (by kernel_rfl) (by kernel_rfl) (fun _ _ _ h => h) (Or.inl ⟨by rfl, ?hy51_19⟩) (by assumption) ?rest51_19
  case hy51_19 => (intro w hSw; (try dsimp only at hSw); go_simp; try with_reducible rfl)
  try simp only [Act.put, List.setIfInBounds_toArray, List.set_cons_zero, List.set_cons_succ]
  refine wpAnyH_take (i := 20) (oi := { dst := some 64, op := Op.binOp BinOp.eql 3 (Operand.tmp 63) (Operand.const (Value.int IntKind.i64 0)) 3, type := 4, pos := "law.go:133", after := #[{ on := 19, ground := Ground.data }, { on := 17, ground := Ground.guard }], guard := some (17, true) }) (v := .bool true) rfl (by kernel_rfl) (by kernel_rfl) (by kernel_rfl) (fun _ _ _ h => h) (Or.inl ⟨by rfl, ?hy51_20⟩) (by assumption) ?rest51_20
  case hy51_20 => (intro w hSw; (try dsimp only at hSw); go_simp; try with_reducible rfl)
  try simp only [Act.put, List.setIfInBounds_toArray, List.set_cons_zero, List.set_cons_succ]
  refine wpAnyH_take (i := 21) (oi := { dst := some 65, op := Op.pick (Operand.tmp 61) (Operand.tmp 64) (Operand.const (Value.bool false)), type := 4, pos := "law.go:133", after := #[{ on := 17, ground := Ground.data }, { on := 20, ground := Ground.data }], guard := none }) (v := .bool true) rfl (by kernel_rfl) (by kernel_rfl) (by kernel_rfl) (fun _ _ _ h => h) (Or.inl ⟨by rfl, ?hy51_21⟩) (by assumption) ?rest51_21
  case hy51_21 => (intro w hSw; (try dsimp only at hSw); go_simp; try with_reducible rfl)
  try simp only [Act.put, List.setIfInBounds_toArray, List.set_cons_zero, List.set_cons_succ]
  refine wpAnyH_take (i := 22) (oi := { dst := some 66, op := Op.move (Operand.tmp 65), type := 4, pos := "law.go:133", after := #[{ on := 21, ground := Ground.data }, { on := 17, ground := Ground.chain }], guard := none }) (v := .bool true) rfl (by kernel_rfl) (by kernel_rfl) (by kernel_rfl) (fun _ _ _ h => h) (Or.inl ⟨by rfl, ?hy51_22⟩) (by assumption) ?rest51_22
  case hy51_22 => (intro w hSw; (try dsimp only at hSw); go_simp; try with_reducible rfl)
  try simp only [Act.put, List.setIfInBounds_toArray, List.set_cons_zero, List.set_cons_succ]
  refine wpAnyH_ready (rs := [23]) (by kernel_rfl) (by simp) ?_
  refine AllReadyH.cons (o := { dst := some 67, op := Op.call { callee := Callee.value (Operand.func 12), args := #[], argTypes := #[] }, type := 4, pos := "law.go:133", after := #[{ on := 22, ground := Ground.chain }, { on := 22, ground := Ground.guard }], guard := some (22, true) }) rfl (fun K hK => ?_) AllReadyH.nil
  go_simp
  refine (rc.awake_any _ (HT2.out _ (by assumption))).mono ?_
  rintro e w5 ⟨rfl, hb5⟩
  refine hK.out _ _ (hV0.trans (hb4.mono hV0.size) |>.trans (hb5.mono (Nat.le_trans hV0.size hb4.size))) (fun _ => ?_)
  clear hK K
  try simp only [Act.put, List.setIfInBounds_toArray, List.set_cons_zero, List.set_cons_succ]
  refine wpAnyH_take (i := 24) (oi := { dst := some 68, op := Op.pick (Operand.tmp 66) (Operand.tmp 67) (Operand.const (Value.bool false)), type := 4, pos := "law.go:133", after := #[{ on := 22, ground := Ground.data }, { on := 23, ground := Ground.data }], guard := none }) (v := .bool true) rfl (by kernel_rfl) (by kernel_rfl) (by kernel_rfl) (fun _ _ _ h => h) (Or.inl ⟨by rfl, ?hy51_24⟩) (by assumption) ?rest51_24
  case hy51_24 => (intro w hSw; (try dsimp only at hSw); go_simp; try with_reducible rfl)
  try simp only [Act.put, List.setIfInBounds_toArray, List.set_cons_zero, List.set_cons_succ]
  refine wpAnyH_take (i := 25) (oi := { dst := some 4, op := Op.assign (Operand.tmp 68), type := 4, pos := "law.go:133", after := #[{ on := 24, ground := Ground.data }, { on := 23, ground := Ground.chain }, { on := 0, ground := Ground.phase }, { on := 1, ground := Ground.phase }, { on := 2, ground := Ground.phase }, { on := 3, ground := Ground.phase }, { on := 4, ground := Ground.phase }, { on := 5, ground := Ground.phase }, { on := 6, ground := Ground.phase }, { on := 7, ground := Ground.phase }, { on := 8, ground := Ground.phase }, { on := 9, ground := Ground.phase }, { on := 10, ground := Ground.phase }, { on := 11, ground := Ground.phase }, { on := 12, ground := Ground.phase }, { on := 13, ground := Ground.phase }, { on := 14, ground := Ground.phase }, { on := 15, ground := Ground.phase }, { on := 16, ground := Ground.phase }, { on := 17, ground := Ground.phase }, { on := 18, ground := Ground.phase }, { on := 19, ground := Ground.phase }, { on := 20, ground := Ground.phase }, { on := 21, ground := Ground.phase }, { on := 22, ground := Ground.phase }, { on := 23, ground := Ground.phase }, { on := 24, ground := Ground.phase }], guard := none }) (v := .bool true) rfl (by kernel_rfl) (by kernel_rfl) (by kernel_rfl) (fun _ _ _ h => h) (Or.inl ⟨by rfl, ?hy51_25⟩) (by assumption) ?rest51_25
  case hy51_25 => (intro w hSw; (try dsimp only at hSw); go_simp; try with_reducible rfl)
  try simp only [Act.put, List.setIfInBounds_toArray, List.set_cons_zero, List.set_cons_succ]
  refine wpAnyH_done (by kernel_rfl) ?_ _
  go_wp2_with fail
  go_ret
  exact ⟨rfl, H9.out.trans ((hV0.trans (hb4.mono hV0.size) |>.trans (hb5.mono (Nat.le_trans hV0.size hb4.size))).mono (Nat.le_of_lt hg2))⟩
end Go.Proofs.YtmdaglcpnakjhaaDoor.recordTrueDone
namespace Go.Proofs.YtmdaglcpnakjhaaDoor.recordTrueDone
open Go.ChangeShapes Go.WideShapes Go.ChangeAt Go.RowKit Mem OM LM DM dg rc
set_option linter.unusedVariables false
set_option maxRecDepth 100000
theorem contract (H : Type) (enc : TypeId × Value → H) (W : World) (base : Nat) (args : Array Value) (ds gs : List (DataW H)) (before : List MemPlace)
    (hval : ∀ (j : Nat) t v, Tryd.f10.params[j]? = some t → args[j]? = some v → Value.okWide Tryd.prog W .any base t v)
    (hW : DataW.Whole enc Tryd.prog Tryd.f10.params.toList Rows.recordTrueSpec.vars false W args.toList ds gs before) (hL : laidMetH Tryd.prog Rows.recordTrueRow.laid W) :
    Calls Tryd.prog 10 args W fun e W' => ∃ v, e = .returned v ∧ Rows.recordTrueSpec.post enc Tryd.prog Tryd.f10 false true false false W args v W' := by
  have hW' := hW
  have hT : Tab W := table rfl hL
  obtain ⟨p, q, hA0, hV, rfl, hfz, hnd⟩ := hW
  have hA : DataW.TrodAll enc Tryd.prog W 0 (fun _ => true) true Tryd.f10.params.toList args.toList ds p := hA0
  rw [Tryd.params10] at hA hval
  obtain ⟨v0, vs0, d0, ds0, p0, q0, hargs, rfl, rfl, h0, r0⟩ := trodAll_cons hA
  obtain ⟨v1, vs1, d1, ds1, p1, q1, rfl, rfl, rfl, h1, r1⟩ := trodAll_cons r0
  obtain ⟨rfl, rfl, rfl⟩ := trodAll_nil r1
  obtain rfl : args = #[v0, v1] := by cases args; simp_all
  obtain ⟨rfl, rfl⟩ := trodVars_none hV
  have k0 := h0
  have lt0 : ∀ x ∈ p0, x.block < W.heap.size := by obtain ⟨m, hm⟩ := k0; exact DataW.trod_lt m _ _ _ hm
  obtain ⟨K0, S0, d0x, l0, A0, n0, c0, rfl, hd0, w0, m0, b0, hK0, hS0⟩ := open_rec (hval 0 26 v0 rfl rfl) h0
  obtain ⟨a1, rfl, rfl, rfl, w1⟩ := open_int Tryd.underlying3 (hval 1 3 v1 rfl rfl) h1
  clear hA0 hval
  refine (walk K0 S0 d0x l0 A0 n0 c0 a1 W hT hd0 w0 m0 b0 hK0 hS0 w1).mono fun e W' ⟨he, bel⟩ => ?_
  subst he
  exact ⟨_, rfl, _, _, _, [], _, [], hW', trodAll_mk1 (shut_bool Tryd.underlying4 _), (trodAll_cons_mk (Below.trod laidOut (by kernel_rfl) (of_decide_eq_true (by kernel_rfl)) k0 bel lt0) (trodAll_cons_mk (shut_int Tryd.underlying3 w1) trodAll_mk0)), rfl, bel.frame _, fun h => by cases h⟩

theorem laid_met (os : Os) : laidMet Tryd.prog Rows.recordTrueRow.laid ((laidWorld os).forCall (fun _ _ => 0) ⟨#[], #[.agg recZ.toArray, .int .i64 0], []⟩).memory :=
  laidMet_of_run' 8 (by kernel_rfl) (by kernel_rfl)
theorem reads (os : Os) {H : Type} (enc : TypeId × Value → H) : ∃ places, DataW.whole enc Tryd.prog ((laidWorld os).forCall (fun _ _ => 0) ⟨#[], #[.agg recZ.toArray, .int .i64 0], []⟩).memory Tryd.f10.params.toList Rows.recordTrueSpec.vars false (#[.agg recZ.toArray, .int .i64 0] : Array Value).toList 8 = some ([.agg [.lit (.int .i64 0), .lit (.int .i64 0), .agg (List.replicate 32 (.lit (.int .u8 0))), .nil], .lit (.int .i64 0)], [], places) :=
  ⟨[], by kernel_rfl⟩
set_option maxRecDepth 100000 in
theorem lifted (os : Os) (started : os.Started) (H : Type) (enc : TypeId × Value → H) (F : Stop.Interp) :
    ReturnsInHanded {} Tryd.checked os 10 .any ((OpenSpec.ofChange Rows.recordTrueSpec).preRow enc Tryd.prog Tryd.f10 Rows.recordTrueRow.domain false Rows.recordTrueRow.laid) (((OpenSpec.ofChange Rows.recordTrueSpec).at F).post enc Tryd.prog Tryd.f10 false true false false) := by
  obtain ⟨places, hx⟩ := reads os enc
  refine returnsInHanded_of_row (C := Tryd.checked) (s := OpenSpec.ofChange Rows.recordTrueSpec) own started (by kernel_rfl) Tryd.func10
    (witness_row_at (enc := enc) (C := Tryd.checked) false (laidWorld os) #[.agg recZ.toArray, .int .i64 0] rfl (by kernel_rfl) (by kernel_rfl) (by kernel_rfl)
      (OpenSpec.preRow_of_cond 8 hx (by kernel_rfl) (fun k hk => by cases hk) (by kernel_rfl) (laid_met os))) ?_
  intro W base args ds gs before hval hW _ _ _ hL _ _
  exact contract H enc W base args ds gs before hval hW hL
theorem said : Rows.RecordTrueSaid :=
  OpenClaim.holds_of_cond 10 Tryd.f10 rfl rfl rfl rfl rfl rfl rfl ⟨rfl, rfl, rfl, rfl, rfl⟩ rfl rfl rfl rfl rfl (by kernel_rfl) Tryd.func10 (by kernel_rfl)
    (of_decide_eq_true (by kernel_rfl)) (by unfold Func.isWrapper; first | (rw [if_pos (by decide +kernel)]; kernel_rfl) | (rw [if_neg (by decide +kernel)]; exact ⟨rfl, rfl⟩))
    (fun os started H enc _ F => by rw [OpenClaim.pre_eq_preRow]; exact lifted os started H enc F)
theorem plain (f : FuncId) (fn : Func) (hf : Tryd.pinned.checked.prog.funcNamed "flume/flumelaw10.RecordTrue" = some f) (hfn : Tryd.pinned.checked.prog.funcs[f]? = some fn) :
    false = Tryd.pinned.checked.prog.looks [] ∧ ∀ (j : Nat) t, fn.params[j]? = some t → Tryd.pinned.checked.prog.wantsStandIn t = false := by
  obtain rfl : f = 10 := Option.some.inj ((show Tryd.prog.funcNamed "flume/flumelaw10.RecordTrue" = some 10 by kernel_rfl).symm.trans hf) |>.symm
  obtain rfl : fn = Tryd.f10 := (Option.some.inj (Tryd.func10.symm.trans hfn)).symm
  refine ⟨by kernel_rfl, fun j t ht => ?_⟩
  rw [Tryd.params10] at ht
  have hm : t ∈ [26, 3] := by simpa using Array.mem_of_getElem? ht
  have hall : ([26, 3].all fun u => !Tryd.prog.wantsStandIn u) = true := by kernel_rfl
  exact (show Tryd.prog.wantsStandIn t = false by simpa using List.all_eq_true.1 hall t hm)
/-- the given statement -/
theorem proved : Rows.RecordTrueCardSaid :=
  Claim7.holds_tied_plain_at .later [] _ _ _ _ said (fun _ h => by cases h) (by kernel_rfl) (fun _ h => by cases h) recordTrue_row_tie rfl ⟨rfl, rfl⟩ (by kernel_rfl) rfl plain (by kernel_rfl)
#print axioms proved
end Go.Proofs.YtmdaglcpnakjhaaDoor.recordTrueDone
