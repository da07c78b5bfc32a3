/- RcQ, RcR in one. -/
import Derived.Test.YtbcgnacfhpahkaaDoorRcMN
import Derived.Test.YtbcgnacfhpahkaaDoorDgTW
import Derived.Test.YtbcgnacfhpahkaaDoorLzP
import Derived.Test.YtbcgnacfhpahkaaDoorLzMath3
namespace Go.Proofs.YtbcgnacfhpahkaaDoor.rc
set_option maxRecDepth 20000
open Go.RowKit Mem OM LM DM
set_option linter.unusedVariables false
set_option linter.unusedSimpArgs false
attribute [local go_sem] Oper.semAt_some
theorem chk_eq (K S : Int) (n : Nat) : chk K S n = if (1 ≤ S ∧ S ≤ 256) ∧ (K = 1 ∧ n = 0 ∨ K = 2 ∧ (n : Int) = S ∨ K = 3 ∧ n ≤ 256) then 0 else 100 := by
  unfold chk fitsR fitsS fitsD
  by_cases h1 : 1 ≤ S ∧ S ≤ 256
  · by_cases k1 : K = 1
    · subst k1; simp [h1]
    · by_cases k2 : K = 2
      · subst k2; simp [h1]
      · by_cases k3 : K = 3
        · subst k3; simp [h1]
        · simp [k1, k2, k3]
  · simp [h1]
def refCheckPost (K S : Int) (n : Nat) (w : World) (e : Ending) (w' : World) : Prop := e = .returned (.int .i64 (chk K S n : Nat)) ∧ Below w.heap.size w w'
set_option maxHeartbeats 4000000 in
theorem refCheck_any (K S : Int) (d : List UInt8) (hd : d.length = 32) (A : Option Addr) (n c : Nat) (w : World) : Calls Tryd.prog 14 #[.agg (recL K S d A n c).toArray] w (refCheckPost K S n w) := by
  obtain ⟨c0, c1, c34⟩ := rec_box w K S d hd A n c 26
  have hb : Below w.heap.size w (w.alloc (.cells (recL K S d A n c).toArray 26)) := (Below.refl _ _).alloc (Nat.le_refl _) _
  unfold refCheckPost
  rw [chk_eq]
  obtain ⟨RA, hRA⟩ : ∃ z, (recL K S d A n c).toArray = z := ⟨_, rfl⟩
  rw [hRA] at c0 c1 c34 hb ⊢
  clear hRA
  by_cases k1 : K = 1
  · subst k1
    by_cases hn : n = 0
    · subst hn
      by_cases s1 : S < 1
      · rw [if_neg (by omega)]
        go_enter Tryd.func14, Tryd.ntmps14
        go_wp2_with fail
        go_ret
        exact ⟨rfl, hb⟩
      · by_cases s2 : 256 < S
        · rw [if_neg (by omega)]
          go_enter Tryd.func14, Tryd.ntmps14
          go_wp2_with fail
          go_ret
          exact ⟨rfl, hb⟩
        · rw [if_pos (by omega)]
          go_enter Tryd.func14, Tryd.ntmps14
          go_wp2_with fail
          go_ret
          exact ⟨rfl, hb⟩
    · have hnb : ((n : Int) == 0) = false := beq_eq_false_iff_ne.2 (by omega)
      rw [if_neg (by omega)]
      go_enter Tryd.func14, Tryd.ntmps14
      go_wp2_with fail
      go_ret
      exact ⟨rfl, hb⟩
  · have b1 : (K == 1) = false := beq_eq_false_iff_ne.2 k1
    by_cases k2 : K = 2
    · subst k2
      by_cases hn : (n : Int) = S
      · have hnb : ((n : Int) == S) = true := beq_iff_eq.2 hn
        by_cases s1 : S < 1
        · rw [if_neg (by omega)]
          go_enter Tryd.func14, Tryd.ntmps14
          go_wp2_with fail
          go_ret
          exact ⟨rfl, hb⟩
        · by_cases s2 : 256 < S
          · rw [if_neg (by omega)]
            go_enter Tryd.func14, Tryd.ntmps14
            go_wp2_with fail
            go_ret
            exact ⟨rfl, hb⟩
          · rw [if_pos (by omega)]
            go_enter Tryd.func14, Tryd.ntmps14
            go_wp2_with fail
            go_ret
            exact ⟨rfl, hb⟩
      · have hnb : ((n : Int) == S) = false := beq_eq_false_iff_ne.2 hn
        rw [if_neg (by omega)]
        go_enter Tryd.func14, Tryd.ntmps14
        go_wp2_with fail
        go_ret
        exact ⟨rfl, hb⟩
    · have b2 : (K == 2) = false := beq_eq_false_iff_ne.2 k2
      by_cases k3 : K = 3
      · subst k3
        by_cases hn : n ≤ 256
        · have hni : (n : Int) ≤ 256 := by omega
          by_cases s1 : S < 1
          · rw [if_neg (by omega)]
            go_enter Tryd.func14, Tryd.ntmps14
            go_wp2_with fail
            go_ret
            exact ⟨rfl, hb⟩
          · by_cases s2 : 256 < S
            · rw [if_neg (by omega)]
              go_enter Tryd.func14, Tryd.ntmps14
              go_wp2_with fail
              go_ret
              exact ⟨rfl, hb⟩
            · rw [if_pos (by omega)]
              go_enter Tryd.func14, Tryd.ntmps14
              go_wp2_with fail
              go_ret
              exact ⟨rfl, hb⟩
        · have hni : ¬ (n : Int) ≤ 256 := by omega
          rw [if_neg (by omega)]
          go_enter Tryd.func14, Tryd.ntmps14
          go_wp2_with fail
          go_ret
          exact ⟨rfl, hb⟩
      · have b3 : (K == 3) = false := beq_eq_false_iff_ne.2 k3
        rw [if_neg (by omega)]
        go_enter Tryd.func14, Tryd.ntmps14
        go_wp2_with fail
        go_ret
        exact ⟨rfl, hb⟩
end Go.Proofs.YtbcgnacfhpahkaaDoor.rc
namespace Go.Proofs.YtbcgnacfhpahkaaDoor.rc
set_option maxRecDepth 20000
open Go.RowKit Mem OM LM DM
set_option linter.unusedVariables false
set_option linter.unusedSimpArgs false
attribute [local go_sem] Oper.semAt_some
theorem re_len (S : Int) (hS : 1 ≤ S) (x : List UInt8) (h : (reB x S).2 = 0) : (((reB x S).1.length : Nat) : Int) ≤ S := by
  rw [reB_re] at h ⊢
  have hg := re_grow S x.length x [] (re S x []).1 (Nat.le_refl _) (by rw [← h])
  rcases hg.2 with ⟨e, _⟩ | ⟨_, e⟩
  · rw [← e]; simp; omega
  · exact e
theorem chk_ok {K S : Int} {n : Nat} (h : chk K S n = 0) : (1 ≤ S ∧ S ≤ 256) ∧ (K = 1 ∧ n = 0 ∨ K = 2 ∧ (n : Int) = S ∨ K = 3 ∧ n ≤ 256) := by
  rw [chk_eq] at h
  split at h
  · assumption
  · omega
set_option maxHeartbeats 4000000 in
theorem refOpen_any (K S : Int) (d : List UInt8) (hd : d.length = 32) (A : Option Addr) (n c B : Nat) (x : List UInt8) (w : World) (h : Rd w B A n (bv x)) (hB : B ≤ w.heap.size) (hc : n ≤ c) (hn : n ≤ 1048576) (hS : -9223372036854775808 ≤ S ∧ S ≤ 9223372036854775807) :
    Calls Tryd.prog 23 #[.agg (recL K S d A n c).toArray] w (MadeE w (openR K S d x)) := by
  have hxl : x.length = n := by rw [← h.len, bv_len]
  have hrg := dg.range_new w (recL K S d A n c) 26
  have hb : Below w.heap.size w (w.alloc (.cells (recL K S d A n c).toArray 26)) := (Below.refl _ _).alloc (Nat.le_refl _) _
  have hlt : w.heap.size < (w.alloc (.cells (recL K S d A n c).toArray 26)).heap.size := by simp
  have hinfR : (Tryd.prog.info? 26).map (·.size) = some (recL K S d A n c).length := by rw [recL_len hd]; exact info_rec
  have hck := fun y => refCheck_any K S d hd A n c y
  unfold refCheckPost at hck
  obtain ⟨c0, c1, c34⟩ := rec_box w K S d hd A n c 26
  have hrs := rec_sum hrg
  have HX := Lib.hid (And.intro h hxl)
  obtain ⟨RL, hRL⟩ : ∃ z, recL K S d A n c = z := ⟨_, rfl⟩
  rw [hRL] at hrg hb hlt hinfR c0 c1 c34 hrs ⊢
  simp only [hRL] at hck
  obtain ⟨RA, hRA⟩ : ∃ z, RL.toArray = z := ⟨_, rfl⟩
  rw [hRA] at hrg hb hlt c0 c1 c34 hrs ⊢
  simp only [hRA] at hck
  obtain ⟨W, hW⟩ : ∃ z, w.alloc (.cells RA 26) = z := ⟨_, rfl⟩
  rw [hW] at hrg hb hlt c0 c1 c34 hrs
  obtain ⟨g, hg⟩ : ∃ z, w.heap.size = z := ⟨_, rfl⟩
  have HG := Lib.hid hg
  have HRA := Lib.hid hRA
  rw [hg] at hrg hb hlt c0 c1 c34 hrs
  have hbx : Rd W B A n (bv x) := h.below hb (by rw [← hg]; exact hB)
  have hBg : B ≤ g := by rw [← hg]; exact hB
  unfold MadeE openR
  rw [hxl]
  have HRG := Lib.hid (And.intro hrg (And.intro hrs hbx))
  clear h hxl hRL hRA hbx hrs
  rw [hg]
  rcases chk_two K S n with hc0 | hc1
  · rw [if_neg (by omega)]
    rw [hc0] at hck
    obtain ⟨⟨hS1, hS2⟩, hkk⟩ := chk_ok hc0
    by_cases k1 : K = 1
    · rw [if_pos k1]
      subst k1
      go_enter Tryd.func23, Tryd.ntmps23
      go_upto_region 1 with fail
      try rw [hW]
      try rw [hg]
      go_wp2_with (first
        | (refine wpList_load_mid rfl 26 (.tmp 1) rfl g 0 rfl RL _ hrg Tryd.underlying26 rfl hinfR ?_; rw [HRA.out])
        | (go_at_call 14; refine (hck _).mono ?_; rintro e w2 ⟨rfl, hb2⟩; have q0 := (hb2.cell (p := ⟨g, 0, none⟩) hlt).trans c0)
        | fail)
      go_ret2
      exact ⟨none, 0, 0, rfl, Ow.nil _ _ _, hb.trans (hb2.mono (Nat.le_of_lt hlt))⟩
    · rw [if_neg k1]
      have b1 : (K == 1) = false := beq_eq_false_iff_ne.2 k1
      by_cases k2 : K = 2
      · have hcar : carR K S x = (x, 0) := by unfold carR; rw [if_pos k2]
        rw [hcar, if_neg (by simp)]
        subst k2
        obtain ⟨E, hE⟩ : ∃ E : List UInt8 × Nat, (if digest x ≠ d then (([] : List UInt8), 111) else (x, 0)) = E := ⟨_, rfl⟩
        simp only [hE]
        have HE := Lib.hid hE
        clear hE hcar
        go_enter Tryd.func23, Tryd.ntmps23
        go_upto_region 1 with fail
        try rw [hW]
        try rw [hg]
        go_upto_region 5 with (first
          | (refine wpList_load_mid rfl 26 (.tmp 1) rfl g 0 rfl RL _ hrg Tryd.underlying26 rfl hinfR ?_; rw [HRA.out])
          | (go_at_call 14; refine (hck _).mono ?_; rintro e w2 ⟨rfl, hb2⟩; have q0 := (hb2.cell (p := ⟨g, 0, none⟩) hlt).trans c0; have q1 := (hb2.cell (p := ⟨g, 1, none⟩) hlt).trans c1; have q34 := (hb2.cell (p := ⟨g, 34, none⟩) hlt).trans c34)
          | fail)
        have hlt2 : g < w2.heap.size := Nat.lt_of_lt_of_le hlt hb2.size
        have hb02 : Below g w w2 := hb.trans (hb2.mono (Nat.le_of_lt hlt))
        have hrd2 := HRG.out.2.2.below hb2 (by omega)
        have hsr2 := dg.range_below HRG.out.2.1 hb2 hlt
        have hXb : Below w2.heap.size w2 (w2.alloc (.cells #[] 5)) := (Below.refl _ _).alloc (Nat.le_refl _) _
        have hlit := Ow.lit0 w2 5 (base := w2.heap.size) (Nat.le_refl _)
        have HXB := Lib.hid hXb
        go_upto_region 6 with (at_builtin; refine wp_app oct.u8ty rfl (.tmp 13) (.tmp 15) rfl rfl rfl hlit (hrd2.below hXb (by omega)) (bv_one _) (by omega) (by omega) (by simp) ?_; intro A3 N3 d3 w3 ho3 hN3 hb3 hg3)
        rw [List.nil_append] at ho3
        have hb23 := HXB.out.trans hb3
        have r0 := (hb23.cell (p := ⟨g, 0, none⟩) hlt2).trans q0
        have r1 := (hb23.cell (p := ⟨g, 1, none⟩) hlt2).trans q1
        have r34 := (hb23.cell (p := ⟨g, 34, none⟩) hlt2).trans q34
        have hlt3 : g < w3.heap.size := Nat.lt_of_lt_of_le hlt2 hb23.size
        have hb03 : Below g w w3 := hb02.trans (hb23.mono (Nat.le_of_lt hlt2))
        have hrd3 := hrd2.below hb23 (by omega)
        have hsr3 := dg.range_below hsr2 hb23 hlt2
        go_upto_region 11 with fail
        have hoz := ho3
        have hbz := hb03
        have hsz := hsr3
        have hltz := hlt3
        clear ho3 hrd2 hrd3 hsr2 hXb hlit hg3 r0 r1 r34 q0 q1 q34 c0 c1 c34
        obtain ⟨wz, hwz⟩ : ∃ z, z = w3 := ⟨_, rfl⟩
        subst hwz
        have hse := fun w => dg.sum_equal (digest x) d (digest_len x) hd w
        have HSE := Lib.hid hse
        clear hse
        have hinfS : (Tryd.prog.info? 23).map (·.size) = some (bv d).length := by rw [bv_len, hd]; kernel_rfl
        have hS0 : Below wz.heap.size wz wz.drew := lz.below_drew (Below.refl _ _)
        have hqk := dg.refQuick_any A3 N3 d3 _ x wz.drew (hoz.rd.below hS0 (Nat.le_refl _)) (Nat.le_refl _) (by omega)
        have HQK := Lib.hid hqk
        clear hqk
        obtain ⟨wq, hwq⟩ : ∃ z, wz.drew = z := ⟨_, rfl⟩
        have HS := Lib.hid hS0
        rw [hwq] at HS HQK
        refine wp_region_held_drew (S := fun y => Below wz.heap.size wz y) (by kernel_rfl) hS0 (fun hHeld => ?_)
        rw [hwq] at hHeld ⊢
        clear hwq hS0
        refine wpAnyH_take (i := 0) (oi := { dst := some 38, op := Op.move (Operand.tmp 4), type := 24, pos := "ref.go:66", after := #[], guard := none }) (v := .slice A3 N3 d3) rfl (by kernel_rfl) (by kernel_rfl) (by kernel_rfl) (fun _ _ _ h => h) (Or.inl ⟨by rfl, ?hy101_0⟩) (by assumption) ?rest101_0
        case hy101_0 => (intro w hSw; (try dsimp only at hSw); go_simp; try with_reducible rfl)
        try simp only [Act.put, List.setIfInBounds_toArray, List.set_cons_zero, List.set_cons_succ]
        refine wpAnyH_take (i := 2) (oi := { dst := some 40, op := Op.fieldAddr 26 (Operand.tmp 1) 2, type := 0, pos := "ref.go:66", after := #[], guard := none }) (v := .pointer (some ⟨g, 2, none⟩)) rfl (by kernel_rfl) (by kernel_rfl) (by kernel_rfl) (fun _ _ _ h => h) (Or.inl ⟨by rfl, ?hy101_2⟩) (by assumption) ?rest101_2
        case hy101_2 => (intro w hSw; (try dsimp only at hSw); go_simp; try with_reducible rfl)
        try simp only [Act.put, List.setIfInBounds_toArray, List.set_cons_zero, List.set_cons_succ]
        refine wpAnyH_take (i := 3) (oi := { dst := some 41, op := Op.load 23 (Operand.tmp 40), type := 23, pos := "ref.go:66", after := #[{ on := 2, ground := Ground.data }], guard := none }) (v := .agg (bv d).toArray) rfl (by kernel_rfl) (by kernel_rfl) (by kernel_rfl) (fun _ _ _ h => h) ?hy101_3 (by assumption) ?rest101_3
        case hy101_3 => exact yieldsIf_load_mid (by rfl) 23 (.tmp 40) rfl g 2 rfl (bv d) _ (fun y hy => dg.range_below hsz hy hltz) Tryd.underlying23 rfl hinfS
        try simp only [Act.put, List.setIfInBounds_toArray, List.set_cons_zero, List.set_cons_succ]
        refine wpAnyH_ready (rs := [1]) (by kernel_rfl) (by simp) ?_
        refine AllReadyH.cons (o := { dst := some 39, op := Op.call { callee := Callee.value (Operand.func 37), args := #[Operand.tmp 38], argTypes := #[24] }, type := 23, pos := "ref.go:66", after := #[{ on := 0, ground := Ground.data }], guard := none }) rfl (fun K hK => ?_) AllReadyH.nil
        go_simp
        refine (HQK.out).mono ?_
        rintro e w9 ⟨rfl, hb9⟩
        refine hK.out _ _ ((HS.out).trans (hb9.mono (HS.out).size)) (fun _ => ?_)
        clear hK K
        try simp only [Act.put, List.setIfInBounds_toArray, List.set_cons_zero, List.set_cons_succ]
        refine wpAnyH_take (i := 4) (oi := { dst := some 42, op := Op.binOp BinOp.neq 23 (Operand.tmp 39) (Operand.tmp 41) 23, type := 4, pos := "ref.go:66", after := #[{ on := 1, ground := Ground.data }, { on := 3, ground := Ground.data }], guard := none }) (v := .bool (!decide (digest x = d))) rfl (by kernel_rfl) (by kernel_rfl) (by kernel_rfl) (fun _ _ _ h => h) (Or.inl ⟨by rfl, ?hy101_4⟩) (by assumption) ?rest101_4
        case hy101_4 => (intro w hSw; (try dsimp only at hSw); go_simp; try (rw [HSE.out]; rfl))
        try simp only [Act.put, List.setIfInBounds_toArray, List.set_cons_zero, List.set_cons_succ]
        refine wpAnyH_done (by kernel_rfl) ?_ _
        have hb0z : Below g w w9 := hbz.trans ((HS.out.trans (hb9.mono HS.out.size)).mono (Nat.le_of_lt hltz))
        have ho9 := hoz.below (HS.out.trans (hb9.mono HS.out.size)) (Nat.le_refl _)
        by_cases hdd : digest x = d
        · rw [decide_eq_true hdd]
          have hE2 : E = (x, 0) := by rw [← HE.out, if_neg (fun q => q hdd)]
          go_wp2_with fail
          go_ret2
          try rw [hE2]
          exact ⟨_, _, _, rfl, ho9.base (by omega), hb0z⟩
        · rw [decide_eq_false hdd]
          have hE2 : E = ([], 111) := by rw [← HE.out, if_pos hdd]
          go_wp2_with fail
          go_ret2
          try rw [hE2]
          exact ⟨none, 0, 0, rfl, Ow.nil _ _ _, hb0z⟩
      · have b2 : (K == 2) = false := beq_eq_false_iff_ne.2 k2
        have k3 : K = 3 := by rcases hkk with h | h | h; exact absurd h.1 k1; exact absurd h.1 k2; exact h.1
        have hre := fun (wy : World) (hy : Rd wy B A n (bv x)) (hBy : B ≤ wy.heap.size) => lz.refRestore_any A n c B x S wy hy hBy hc hn hS
        skip
        have hcar : carR K S x = if (reB x S).2 ≠ 0 ∨ ¬ (((reB x S).1.length : Nat) : Int) = S then ([], 100) else ((reB x S).1, 0) := by unfold carR; rw [if_neg k2]
        rw [hcar]
        subst k3
        clear hcar
        by_cases he : (reB x S).2 ≠ 0
        · rw [if_pos (Or.inl he), if_pos (by simp)]
          obtain ⟨er, her⟩ : ∃ er, (reB x S).2 = er := ⟨_, rfl⟩
          unfold lz.RePost2 at hre
          simp only [her] at hre
          rw [her] at he
          have hei : ((er : Int) != 0) = true := bne_iff_ne.2 (by omega)
          go_enter Tryd.func23, Tryd.ntmps23
          go_upto_region 1 with fail
          try rw [hW]
          try rw [hg]
          go_upto_region 5 with (first
            | (refine wpList_load_mid rfl 26 (.tmp 1) rfl g 0 rfl RL _ hrg Tryd.underlying26 rfl hinfR ?_; rw [HRA.out])
            | (go_at_call 14; refine (hck _).mono ?_; rintro e w2 ⟨rfl, hb2⟩; have q0 := (hb2.cell (p := ⟨g, 0, none⟩) hlt).trans c0; have q1 := (hb2.cell (p := ⟨g, 1, none⟩) hlt).trans c1; have q34 := (hb2.cell (p := ⟨g, 34, none⟩) hlt).trans c34)
            | fail)
          have hlt2 : g < w2.heap.size := Nat.lt_of_lt_of_le hlt hb2.size
          have hb02 : Below g w w2 := hb.trans (hb2.mono (Nat.le_of_lt hlt))
          have hrd2 := HRG.out.2.2.below hb2 (by omega)
          have hsr2 := dg.range_below HRG.out.2.1 hb2 hlt
          have hXb : Below w2.heap.size w2 (w2.alloc (.cells #[] 5)) := (Below.refl _ _).alloc (Nat.le_refl _) _
          have hlit := Ow.lit0 w2 5 (base := w2.heap.size) (Nat.le_refl _)
          have HXB := Lib.hid hXb
          go_upto_region 6 with (at_builtin; refine wp_app oct.u8ty rfl (.tmp 13) (.tmp 15) rfl rfl rfl hlit (hrd2.below hXb (by omega)) (bv_one _) (by omega) (by omega) (by simp) ?_; intro A3 N3 d3 w3 ho3 hN3 hb3 hg3)
          rw [List.nil_append] at ho3
          have hb23 := HXB.out.trans hb3
          have r0 := (hb23.cell (p := ⟨g, 0, none⟩) hlt2).trans q0
          have r1 := (hb23.cell (p := ⟨g, 1, none⟩) hlt2).trans q1
          have r34 := (hb23.cell (p := ⟨g, 34, none⟩) hlt2).trans q34
          have hlt3 : g < w3.heap.size := Nat.lt_of_lt_of_le hlt2 hb23.size
          have hb03 : Below g w w3 := hb02.trans (hb23.mono (Nat.le_of_lt hlt2))
          have hrd3 := hrd2.below hb23 (by omega)
          have hsr3 := dg.range_below hsr2 hb23 hlt2
          have hre3 := hre w3 hrd3 (by omega)
          clear hre
          go_wp2_with (go_at_call 40; refine (hre3).mono ?_; rintro e w5 ⟨A5, N5, d5, rfl, ho5, hb5⟩)
          go_ret2
          exact ⟨none, 0, 0, rfl, Ow.nil _ _ _, hb03.trans (hb5.mono (Nat.le_of_lt hlt3))⟩
        · have he0 : (reB x S).2 = 0 := by omega
          have hle := re_len S hS1 x he0
          unfold lz.RePost2 at hre
          simp only [he0] at hre
          obtain ⟨y, hy⟩ : ∃ y, (reB x S).1 = y := ⟨_, rfl⟩
          rw [hy] at hle ⊢
          rw [he0]
          simp only [hy] at hre
          by_cases hyl : ((y.length : Nat) : Int) = S
          · rw [show (if 0 ≠ 0 ∨ ¬ ((y.length : Nat) : Int) = S then (([] : List UInt8), 100) else (y, 0)) = (y, 0) from if_neg (by intro q; rcases q with q | q; exact q rfl; exact q hyl)]
            rw [if_neg (by simp)]
            obtain ⟨E, hE⟩ : ∃ E : List UInt8 × Nat, (if digest y ≠ d then (([] : List UInt8), 111) else (y, 0)) = E := ⟨_, rfl⟩
            simp only [hE]
            have HE := Lib.hid (And.intro hE hyl)
            clear hE hyl hle hy he he0
            go_enter Tryd.func23, Tryd.ntmps23
            go_upto_region 1 with fail
            try rw [hW]
            try rw [hg]
            go_upto_region 5 with (first
              | (refine wpList_load_mid rfl 26 (.tmp 1) rfl g 0 rfl RL _ hrg Tryd.underlying26 rfl hinfR ?_; rw [HRA.out])
              | (go_at_call 14; refine (hck _).mono ?_; rintro e w2 ⟨rfl, hb2⟩; have q0 := (hb2.cell (p := ⟨g, 0, none⟩) hlt).trans c0; have q1 := (hb2.cell (p := ⟨g, 1, none⟩) hlt).trans c1; have q34 := (hb2.cell (p := ⟨g, 34, none⟩) hlt).trans c34)
              | fail)
            have hlt2 : g < w2.heap.size := Nat.lt_of_lt_of_le hlt hb2.size
            have hb02 : Below g w w2 := hb.trans (hb2.mono (Nat.le_of_lt hlt))
            have hrd2 := HRG.out.2.2.below hb2 (by omega)
            have hsr2 := dg.range_below HRG.out.2.1 hb2 hlt
            have hXb : Below w2.heap.size w2 (w2.alloc (.cells #[] 5)) := (Below.refl _ _).alloc (Nat.le_refl _) _
            have hlit := Ow.lit0 w2 5 (base := w2.heap.size) (Nat.le_refl _)
            have HXB := Lib.hid hXb
            go_upto_region 6 with (at_builtin; refine wp_app oct.u8ty rfl (.tmp 13) (.tmp 15) rfl rfl rfl hlit (hrd2.below hXb (by omega)) (bv_one _) (by omega) (by omega) (by simp) ?_; intro A3 N3 d3 w3 ho3 hN3 hb3 hg3)
            rw [List.nil_append] at ho3
            have hb23 := HXB.out.trans hb3
            have r0 := (hb23.cell (p := ⟨g, 0, none⟩) hlt2).trans q0
            have r1 := (hb23.cell (p := ⟨g, 1, none⟩) hlt2).trans q1
            have r34 := (hb23.cell (p := ⟨g, 34, none⟩) hlt2).trans q34
            have hlt3 : g < w3.heap.size := Nat.lt_of_lt_of_le hlt2 hb23.size
            have hb03 : Below g w w3 := hb02.trans (hb23.mono (Nat.le_of_lt hlt2))
            have hrd3 := hrd2.below hb23 (by omega)
            have hsr3 := dg.range_below hsr2 hb23 hlt2
            have hre3 := hre w3 hrd3 (by omega)
            clear hre
            go_upto_region 8 with (go_at_call 40; refine (hre3).mono ?_; rintro e w5 ⟨A5, N5, d5, rfl, ho5, hb5⟩)
            have s1 := (hb5.cell (p := ⟨g, 1, none⟩) hlt3).trans r1
            have hN5 : (N5 : Int) = S := by have h1 := ho5.len; rw [bv_len] at h1; have := HE.out.2; omega
            have hN5b : ¬ (N5 : Int) < S := by omega
            have HN5 := Lib.hid hN5
            have hNS : N5 ≤ 256 := by omega
            clear hN5
            go_upto_region 11 with fail
            have hoz := ho5
            have hbz := hb03.trans (hb5.mono (Nat.le_of_lt hlt3))
            have hsz := dg.range_below hsr3 hb5 hlt3
            have hltz := Nat.lt_of_lt_of_le hlt3 hb5.size
            clear hrd2 hrd3 hsr2 hXb hlit hg3 r0 r1 r34 q0 q1 q34 c0 c1 c34 s1
            obtain ⟨wz, hwz⟩ : ∃ z, z = w5 := ⟨_, rfl⟩
            subst hwz
            have hse := fun w => dg.sum_equal (digest y) d (digest_len y) hd w
            have HSE := Lib.hid hse
            clear hse
            have hinfS : (Tryd.prog.info? 23).map (·.size) = some (bv d).length := by rw [bv_len, hd]; kernel_rfl
            have hS0 : Below wz.heap.size wz wz.drew := lz.below_drew (Below.refl _ _)
            have hqk := dg.refQuick_any A5 N5 d5 _ y wz.drew (hoz.rd.below hS0 (Nat.le_refl _)) (Nat.le_refl _) (by omega)
            have HQK := Lib.hid hqk
            clear hqk
            obtain ⟨wq, hwq⟩ : ∃ z, wz.drew = z := ⟨_, rfl⟩
            have HS := Lib.hid hS0
            rw [hwq] at HS HQK
            refine wp_region_held_drew (S := fun y => Below wz.heap.size wz y) (by kernel_rfl) hS0 (fun hHeld => ?_)
            rw [hwq] at hHeld ⊢
            clear hwq hS0
            refine wpAnyH_take (i := 0) (oi := { dst := some 38, op := Op.move (Operand.tmp 4), type := 24, pos := "ref.go:66", after := #[], guard := none }) (v := .slice A5 N5 d5) rfl (by kernel_rfl) (by kernel_rfl) (by kernel_rfl) (fun _ _ _ h => h) (Or.inl ⟨by rfl, ?hy202_0⟩) (by assumption) ?rest202_0
            case hy202_0 => (intro w hSw; (try dsimp only at hSw); go_simp; try with_reducible rfl)
            try simp only [Act.put, List.setIfInBounds_toArray, List.set_cons_zero, List.set_cons_succ]
            refine wpAnyH_take (i := 2) (oi := { dst := some 40, op := Op.fieldAddr 26 (Operand.tmp 1) 2, type := 0, pos := "ref.go:66", after := #[], guard := none }) (v := .pointer (some ⟨g, 2, none⟩)) rfl (by kernel_rfl) (by kernel_rfl) (by kernel_rfl) (fun _ _ _ h => h) (Or.inl ⟨by rfl, ?hy202_2⟩) (by assumption) ?rest202_2
            case hy202_2 => (intro w hSw; (try dsimp only at hSw); go_simp; try with_reducible rfl)
            try simp only [Act.put, List.setIfInBounds_toArray, List.set_cons_zero, List.set_cons_succ]
            refine wpAnyH_take (i := 3) (oi := { dst := some 41, op := Op.load 23 (Operand.tmp 40), type := 23, pos := "ref.go:66", after := #[{ on := 2, ground := Ground.data }], guard := none }) (v := .agg (bv d).toArray) rfl (by kernel_rfl) (by kernel_rfl) (by kernel_rfl) (fun _ _ _ h => h) ?hy202_3 (by assumption) ?rest202_3
            case hy202_3 => exact yieldsIf_load_mid (by rfl) 23 (.tmp 40) rfl g 2 rfl (bv d) _ (fun y hy => dg.range_below hsz hy hltz) Tryd.underlying23 rfl hinfS
            try simp only [Act.put, List.setIfInBounds_toArray, List.set_cons_zero, List.set_cons_succ]
            refine wpAnyH_ready (rs := [1]) (by kernel_rfl) (by simp) ?_
            refine AllReadyH.cons (o := { dst := some 39, op := Op.call { callee := Callee.value (Operand.func 37), args := #[Operand.tmp 38], argTypes := #[24] }, type := 23, pos := "ref.go:66", after := #[{ on := 0, ground := Ground.data }], guard := none }) rfl (fun K hK => ?_) AllReadyH.nil
            go_simp
            refine (HQK.out).mono ?_
            rintro e w9 ⟨rfl, hb9⟩
            refine hK.out _ _ ((HS.out).trans (hb9.mono (HS.out).size)) (fun _ => ?_)
            clear hK K
            try simp only [Act.put, List.setIfInBounds_toArray, List.set_cons_zero, List.set_cons_succ]
            refine wpAnyH_take (i := 4) (oi := { dst := some 42, op := Op.binOp BinOp.neq 23 (Operand.tmp 39) (Operand.tmp 41) 23, type := 4, pos := "ref.go:66", after := #[{ on := 1, ground := Ground.data }, { on := 3, ground := Ground.data }], guard := none }) (v := .bool (!decide (digest y = d))) rfl (by kernel_rfl) (by kernel_rfl) (by kernel_rfl) (fun _ _ _ h => h) (Or.inl ⟨by rfl, ?hy202_4⟩) (by assumption) ?rest202_4
            case hy202_4 => (intro w hSw; (try dsimp only at hSw); go_simp; try (rw [HSE.out]; rfl))
            try simp only [Act.put, List.setIfInBounds_toArray, List.set_cons_zero, List.set_cons_succ]
            refine wpAnyH_done (by kernel_rfl) ?_ _
            have hb0z : Below g w w9 := hbz.trans ((HS.out.trans (hb9.mono HS.out.size)).mono (Nat.le_of_lt hltz))
            have ho9 := hoz.below (HS.out.trans (hb9.mono HS.out.size)) (Nat.le_refl _)
            by_cases hdd : digest y = d
            · rw [decide_eq_true hdd]
              have hE2 : E = (y, 0) := by rw [← HE.out.1, if_neg (fun q => q hdd)]
              go_wp2_with fail
              go_ret2
              try rw [hE2]
              exact ⟨_, _, _, rfl, ho9.base (by omega), hb0z⟩
            · rw [decide_eq_false hdd]
              have hE2 : E = ([], 111) := by rw [← HE.out.1, if_pos hdd]
              go_wp2_with fail
              go_ret2
              try rw [hE2]
              exact ⟨none, 0, 0, rfl, Ow.nil _ _ _, hb0z⟩
          · rw [show (if 0 ≠ 0 ∨ ¬ ((y.length : Nat) : Int) = S then (([] : List UInt8), 100) else (y, 0)) = ([], 100) from if_pos (Or.inr hyl)]
            rw [if_pos (by simp)]
            have hyS : ((y.length : Nat) : Int) < S := by omega
            have HY := Lib.hid hyS
            clear hyl hle hy he he0 hyS
            go_enter Tryd.func23, Tryd.ntmps23
            go_upto_region 1 with fail
            try rw [hW]
            try rw [hg]
            go_upto_region 5 with (first
              | (refine wpList_load_mid rfl 26 (.tmp 1) rfl g 0 rfl RL _ hrg Tryd.underlying26 rfl hinfR ?_; rw [HRA.out])
              | (go_at_call 14; refine (hck _).mono ?_; rintro e w2 ⟨rfl, hb2⟩; have q0 := (hb2.cell (p := ⟨g, 0, none⟩) hlt).trans c0; have q1 := (hb2.cell (p := ⟨g, 1, none⟩) hlt).trans c1; have q34 := (hb2.cell (p := ⟨g, 34, none⟩) hlt).trans c34)
              | fail)
            have hlt2 : g < w2.heap.size := Nat.lt_of_lt_of_le hlt hb2.size
            have hb02 : Below g w w2 := hb.trans (hb2.mono (Nat.le_of_lt hlt))
            have hrd2 := HRG.out.2.2.below hb2 (by omega)
            have hsr2 := dg.range_below HRG.out.2.1 hb2 hlt
            have hXb : Below w2.heap.size w2 (w2.alloc (.cells #[] 5)) := (Below.refl _ _).alloc (Nat.le_refl _) _
            have hlit := Ow.lit0 w2 5 (base := w2.heap.size) (Nat.le_refl _)
            have HXB := Lib.hid hXb
            go_upto_region 6 with (at_builtin; refine wp_app oct.u8ty rfl (.tmp 13) (.tmp 15) rfl rfl rfl hlit (hrd2.below hXb (by omega)) (bv_one _) (by omega) (by omega) (by simp) ?_; intro A3 N3 d3 w3 ho3 hN3 hb3 hg3)
            rw [List.nil_append] at ho3
            have hb23 := HXB.out.trans hb3
            have r0 := (hb23.cell (p := ⟨g, 0, none⟩) hlt2).trans q0
            have r1 := (hb23.cell (p := ⟨g, 1, none⟩) hlt2).trans q1
            have r34 := (hb23.cell (p := ⟨g, 34, none⟩) hlt2).trans q34
            have hlt3 : g < w3.heap.size := Nat.lt_of_lt_of_le hlt2 hb23.size
            have hb03 : Below g w w3 := hb02.trans (hb23.mono (Nat.le_of_lt hlt2))
            have hrd3 := hrd2.below hb23 (by omega)
            have hsr3 := dg.range_below hsr2 hb23 hlt2
            have hre3 := hre w3 hrd3 (by omega)
            clear hre
            go_upto_region 8 with (go_at_call 40; refine (hre3).mono ?_; rintro e w5 ⟨A5, N5, d5, rfl, ho5, hb5⟩)
            have s1 := (hb5.cell (p := ⟨g, 1, none⟩) hlt3).trans r1
            have hN5 : (N5 : Int) < S := by have h1 := ho5.len; rw [bv_len] at h1; have := HY.out; omega
            go_wp2_with fail
            go_ret2
            exact ⟨none, 0, 0, rfl, Ow.nil _ _ _, hb03.trans (hb5.mono (Nat.le_of_lt hlt3))⟩
  · rw [if_pos (by omega)]
    rw [hc1] at hck
    go_enter Tryd.func23, Tryd.ntmps23
    go_upto_region 1 with fail
    try rw [hW]
    try rw [hg]
    go_wp2_with (first
      | (refine wpList_load_mid rfl 26 (.tmp 1) rfl g 0 rfl RL _ hrg Tryd.underlying26 rfl hinfR ?_; rw [HRA.out])
      | (go_at_call 14; refine (hck _).mono ?_; rintro e w2 ⟨rfl, hb2⟩)
      | fail)
    go_ret2
    exact ⟨none, 0, 0, rfl, Ow.nil _ _ _, hb.trans (hb2.mono (Nat.le_of_lt hlt))⟩
end Go.Proofs.YtbcgnacfhpahkaaDoor.rc
