/- Contracts of digest's New, ending, Sum, Of. -/
import Derived.Test.YtbcgnacfhpahkaaDoorDgF
namespace Go.Proofs.YtbcgnacfhpahkaaDoor.dg
set_option maxRecDepth 20000
open Go.RowKit Mem DM
set_option linter.unusedVariables false
/-- a new hash's cells -/
def blank : List Value := .bool true :: (wvs roots ++ (bv (List.replicate 64 0) ++ [.int .u64 0]))
def NewPost (w : World) (e : Ending) (w' : World) : Prop := ∃ b, e = .returned (.pointer (some ⟨b, 0, none⟩)) ∧ w.heap.size ≤ b ∧ HashAt w' b [] ∧ Below w.heap.size w w'
theorem blank_hash (w : World) (t : TypeId) : HashAt (w.alloc (.cells blank.toArray t)) w.heap.size [] := by
  have hr := range_new w blank t
  have ht := there_new w blank t
  have hl : blank.length = 74 := rfl
  rw [hl] at ht
  have sub : ∀ (cs : List Value) (o : Nat), (∀ j v, cs[j]? = some v → blank[o + j]? = some v) → (w.alloc (.cells blank.toArray t)).rangeAt w.heap.size o cs := fun cs o h j v hj => by
    have := hr (o + j) v (h j v hj)
    rw [Nat.zero_add] at this
    exact this
  have th : ∀ o n, o + n ≤ 74 → (w.alloc (.cells blank.toArray t)).there w.heap.size o n := fun o n h => by
    have := there_sub ht o n h
    rw [Nat.zero_add] at this
    exact this
  refine ⟨?_, sub _ 1 (fun j v hj => ?_), th 1 8 (by omega), ⟨List.replicate 64 0, by simp, sub _ 9 (fun j v hj => ?_), rfl⟩, th 9 64 (by omega), ?_, ?_, by simp, by simp⟩
  · have := hr 0 _ rfl
    exact this
  · have hj8 : j < 8 := (List.getElem?_eq_some_iff.1 hj).1
    rw [← hj]
    match j, hj8 with
    | 0, _ => rfl
    | 1, _ => rfl
    | 2, _ => rfl
    | 3, _ => rfl
    | 4, _ => rfl
    | 5, _ => rfl
    | 6, _ => rfl
    | 7, _ => rfl
  · have hj64 : j < (bv (List.replicate 64 0)).length := (List.getElem?_eq_some_iff.1 hj).1
    unfold blank
    rw [show 9 + j = (8 + j) + 1 by omega, List.getElem?_cons_succ, List.getElem?_append_right (by rw [wvs_len]; show 8 ≤ 8 + j; omega), wvs_len, show 8 + j - roots.length = j by show 8 + j - 8 = j; omega, List.getElem?_append_left hj64]
    exact hj
  · have := hr 73 _ rfl
    exact this
  · have := (ht 73 (by omega)).2
    exact this
theorem wp_build {P : Program} {ops : Array Oper} {rest : List Oper} {o : Oper} {a : Act} {w : World} {Q : Exit → Act → World → Prop} (hgd : o.guard = none) (t : TypeId) (parts : Array (Nat × Operand)) (ho : o.op = .build t parts) (v : Value)
    (hrun : (Instr.build t (parts.map fun (i, x) => (i, a.eval x))).run P w = .ok v w) (h : wpList P ops Q rest (a.put o.dst v) w) : wpList P ops Q (o :: rest) a w := by
  refine wpList_plain hgd fun K hK => ?_
  unfold Oper.wp execOp
  simp only [ho, Sem.run_bind, Result.andThen_ok, hrun]
  exact hK _ _ h
set_option maxRecDepth 100000 in
theorem new_any (w : World) (hT : Tab w) : Calls Tryd.prog 53 #[] w (NewPost w) := by
  have hl : ∀ i v, (wvs roots)[i]? = some v → w.cell? ⟨0, i, none⟩ = some v := fun i v h => by
    have := hT.1 i v h
    rw [Nat.zero_add] at this
    exact this
  have c0 := hl 0 _ rfl
  have c1 := hl 1 _ rfl
  have c2 := hl 2 _ rfl
  have c3 := hl 3 _ rfl
  have c4 := hl 4 _ rfl
  have c5 := hl 5 _ rfl
  have c6 := hl 6 _ rfl
  have c7 := hl 7 _ rfl
  clear hl hT
  go_enter Tryd.func53, Tryd.ntmps53
  go_wp2_with (refine wp_build rfl _ _ rfl (.agg blank.toArray) (by kernel_rfl) ?_)
  go_ret
  exact ⟨_, rfl, Nat.le_refl _, blank_hash w _, (Below.refl _ _).alloc (Nat.le_refl _) _⟩
theorem pad_math (no : Nat) (B1 B2 : List UInt8) (h1 : B1.length = 4) (h2 : B2.length = 4) : lay (lay (lay (List.replicate (1 + no + 8) 0) [128] 0) B1 (1 + no)) B2 (1 + no + 4) = 128 :: (List.replicate no 0 ++ B1 ++ B2) := by
  have e0 : lay (List.replicate (1 + no + 8) 0) [128] 0 = (128 :: List.replicate no 0) ++ List.replicate 8 0 := by
    unfold lay
    simp only [List.take_zero, List.nil_append, List.length_cons, List.length_nil, Nat.zero_add, List.drop_replicate, List.cons_append]
    rw [show 1 + no + 8 - 1 = no + 8 by omega, ← List.replicate_append_replicate]
  have hl : ((128 : UInt8) :: List.replicate no 0).length = 1 + no := by simp; omega
  rw [e0]
  have e1 : lay ((128 :: List.replicate no 0) ++ List.replicate 8 0) B1 (1 + no) = (128 :: List.replicate no 0) ++ B1 ++ List.replicate 4 (0 : UInt8) := by
    unfold lay
    rw [← hl, List.take_left, ← List.drop_drop, List.drop_left, h1]
    rfl
  rw [e1]
  have hl2 : ((128 :: List.replicate no 0) ++ B1 : List UInt8).length = 1 + no + 4 := by rw [List.length_append, hl, h1]
  unfold lay
  rw [← hl2, List.take_left, List.drop_of_length_le (by rw [List.length_append, h2]; simp), List.append_nil]
  rfl
/-- what ending leaves -/
def EndPost (N : Nat) (w : World) (e : Ending) (w' : World) : Prop := ∃ g n c, e = .returned (.slice (some ⟨g, 0, none⟩) n c) ∧ w.heap.size ≤ g ∧ n ≤ c ∧ n = (ending N).length ∧ Rd w' w'.heap.size (some ⟨g, 0, none⟩) n (bv (ending N)) ∧ Below w.heap.size w w'
set_option maxHeartbeats 4000000 in
theorem ending_any (b N : Nat) (w : World) (hN : N ≤ 1099511627776) (hb : b < w.heap.size) (hsz : w.cell? ⟨b, 73, none⟩ = some (.int .u64 N)) :
    Calls Tryd.prog 75 #[.pointer (some ⟨b, 0, none⟩)] w (EndPost N w) := by
  obtain ⟨no, hno⟩ : ∃ no, (119 - N % 64) % 64 = no := ⟨_, rfl⟩
  have hno64 : no < 64 := by omega
  have h1 : (N : Int) % 64 = ((N % 64 : Nat) : Int) := by omega
  have h2 : ((119 : Int) - ((N % 64 : Nat) : Int)) % 64 = (no : Int) := by omega
  obtain ⟨X1, hX1⟩ : ∃ X1, (UInt32.ofNat (8 * N / 4294967296)).toNat = X1 := ⟨_, rfl⟩
  obtain ⟨X2, hX2⟩ : ∃ X2, (UInt32.ofNat (8 * N)).toNat = X2 := ⟨_, rfl⟩
  have hv1 : ((N : Int) * 8) / 4294967296 = (X1 : Int) := by rw [← hX1, UInt32.toNat_ofNat']; omega
  have hv2 : ((N : Int) * 8) % 4294967296 = (X2 : Int) := by rw [← hX2, UInt32.toNat_ofNat']; omega
  obtain ⟨M, hM⟩ : ∃ M, N % 64 = M := ⟨_, rfl⟩
  rw [hM] at h1 h2
  have HP := Lib.hid (⟨hno, hX1, hX2⟩ : (119 - N % 64) % 64 = no ∧ (UInt32.ofNat (8 * N / 4294967296)).toNat = X1 ∧ (UInt32.ofNat (8 * N)).toNat = X2)
  clear hno hX1 hX2 hM
  go_enter Tryd.func75, Tryd.ntmps75
  go_upto_region 3 with (refine wp_make u8ty rfl (.tmp 15) (.tmp 15) rfl rfl rfl (by omega) (by omega) (by omega) (by omega) (Nat.le_refl _) ?_; intro g n1 c1 w1 hn1 hc1 ho hb1 hg1 hgs)
  subst hgs
  obtain ⟨g, hg⟩ : ∃ g, w.heap.size = g := ⟨_, rfl⟩
  rw [hg] at ho hb1 ⊢
  have hn1b : n1 = 1 + no + 8 := by omega
  have hcap := ho.cap
  have hcapc := hcap.1
  have hgb : b ≠ g := by omega
  have hgl : g < w1.heap.size := by
    have := ho.at0 (by omega)
    obtain ⟨g', h1, _, h3⟩ := this
    injection h1 with h1
    injection h1 with h1
    omega
  have hr1 : w1.rangeAt g 0 (bv (List.replicate n1 0)) := fun j v hj => by
    have hjl : j < n1 := by
      have := (List.getElem?_eq_some_iff.1 hj).1
      simpa [bv_len] using this
    have := (ho.set j v hjl).2.2.1
    rw [Nat.zero_add, this, ← hj]
    simp [bv]
  have ht1 : w1.there g 0 n1 := fun j hj => by
    have := ho.set j (.int .u8 0) hj
    rw [Nat.zero_add]
    refine ⟨?_, this.2.2.2⟩
    rw [this.2.2.1]
    simp [hj]
  have hlay0 := range_lay (ys := [128]) (k := 0) hr1 (by simpa using ht1) (by simp; omega)
  have ht2 := World.there_setCells ht1 g (0 + 0) (bv [128])
  have hk2 : Keep1 w1 (w1.setCells g (0 + 0) (bv [128])) g := Keep1.sets g _ _ _
  have hs2 : (w1.setCells g (0 + 0) (bv [128])).cell? ⟨b, 73, none⟩ = some (.int .u64 N) := by
    rw [hk2.cell (a := ⟨b, 73, none⟩) (by show b < w1.heap.size; have := hb1.size; omega) hgb]
    exact (hb1.cell (p := ⟨b, 73, none⟩) (by show b < g; omega)).trans hsz
  have hc0 := (ht1 0 (by omega))
  obtain ⟨u0, hu0⟩ := Option.isSome_iff_exists.1 hc0.1
  have hz0 := hc0.2
  rw [Nat.zero_add] at hu0 hz0
  have n1pos : (0 : Int) < (n1 : Int) := by omega
  obtain ⟨w2, hw2⟩ : ∃ z, w1.setCell ⟨g, 0, none⟩ (.int .u8 128) = z := ⟨_, rfl⟩
  have hw2' : w1.setCells g (0 + 0) (bv [128]) = w2 := hw2
  rw [hw2'] at hlay0 ht2 hk2 hs2
  obtain ⟨Y0, hY0⟩ : ∃ z, lay (List.replicate n1 0) [128] 0 = z := ⟨_, rfl⟩
  have hY0l : Y0.length = n1 := by rw [← hY0, lay_len _ _ _ (by simp; omega)]; simp
  rw [hY0] at hlay0
  have hgl2 : g < w2.heap.size := Nat.lt_of_lt_of_le hgl hk2.size
  have hrd2 := range_rd hlay0 hgl2 0 (by omega)
  rw [Nat.add_zero, List.drop_zero, bv_len, hY0l, Nat.sub_zero] at hrd2
  have hput1 : Calls Tryd.prog 76 #[.slice (some ⟨g, 1 + no, none⟩) (8 : Nat) (c1 - (1 + no)), .int .u32 X1] w2 fun e w' => e = .returned (.tuple #[]) ∧ w' = w2.setCells g (1 + no) (bv (bytes4 (UInt32.ofNat (8 * N / 4294967296)))) := by
    have := put_any g (1 + no) 8 (c1 - (1 + no)) (UInt32.ofNat (8 * N / 4294967296)) w2 (by have := there_sub ht2 (1 + no) 4 (by omega); rw [Nat.zero_add] at this; exact this) (by omega)
    unfold wv at this
    rw [HP.out.2.1] at this
    exact this
  obtain ⟨B1, hB1⟩ : ∃ z, bytes4 (UInt32.ofNat (8 * N / 4294967296)) = z := ⟨_, rfl⟩
  obtain ⟨B2, hB2⟩ : ∃ z, bytes4 (UInt32.ofNat (8 * N)) = z := ⟨_, rfl⟩
  have hB1l : B1.length = 4 := by rw [← hB1]; rfl
  have hB2l : B2.length = 4 := by rw [← hB2]; rfl
  rw [hB1] at hput1
  have hlay1 := range_lay (ys := B1) (k := 1 + no) hlay0 (by rw [hY0l]; exact ht2) (by rw [hY0l, hB1l]; omega)
  have ht3 := World.there_setCells ht2 g (0 + (1 + no)) (bv B1)
  have hk3 : Keep1 w2 (w2.setCells g (0 + (1 + no)) (bv B1)) g := Keep1.sets g _ _ _
  rw [Nat.zero_add] at hlay1 ht3 hk3
  obtain ⟨w3, hw3⟩ : ∃ z, w2.setCells g (1 + no) (bv B1) = z := ⟨_, rfl⟩
  rw [hw3] at hlay1 ht3 hk3 hput1
  obtain ⟨Y1, hY1⟩ : ∃ z, lay Y0 B1 (1 + no) = z := ⟨_, rfl⟩
  have hY1l : Y1.length = n1 := by rw [← hY1, lay_len _ _ _ (by rw [hY0l, hB1l]; omega), hY0l]
  rw [hY1] at hlay1
  have hgl3 : g < w3.heap.size := Nat.lt_of_lt_of_le hgl2 hk3.size
  have hrd3 := range_rd hlay1 hgl3 0 (by omega)
  rw [Nat.add_zero, List.drop_zero, bv_len, hY1l, Nat.sub_zero] at hrd3
  have hput2 : Calls Tryd.prog 76 #[.slice (some ⟨g, 1 + no + 4, none⟩) (4 : Nat) (c1 - (1 + no + 4)), .int .u32 X2] w3 fun e w' => e = .returned (.tuple #[]) ∧ w' = w3.setCells g (1 + no + 4) (bv B2) := by
    have := put_any g (1 + no + 4) 4 (c1 - (1 + no + 4)) (UInt32.ofNat (8 * N)) w3 (by have := there_sub ht3 (1 + no + 4) 4 (by omega); rw [Nat.zero_add] at this; exact this) (by omega)
    unfold wv at this
    rw [HP.out.2.2, hB2] at this
    exact this
  have hlay2 := range_lay (ys := B2) (k := 1 + no + 4) hlay1 (by rw [hY1l]; exact ht3) (by rw [hY1l, hB2l]; omega)
  have hk4 : Keep1 w3 (w3.setCells g (0 + (1 + no + 4)) (bv B2)) g := Keep1.sets g _ _ _
  rw [Nat.zero_add] at hlay2 hk4
  obtain ⟨w4, hw4⟩ : ∃ z, w3.setCells g (1 + no + 4) (bv B2) = z := ⟨_, rfl⟩
  rw [hw4] at hlay2 hk4 hput2
  have hend : lay Y1 B2 (1 + no + 4) = ending N := by
    rw [← hY1, ← hY0, hn1b, pad_math no B1 B2 hB1l hB2l]
    unfold ending
    rw [HP.out.1, hB1, hB2]
  rw [hend] at hlay2
  have hendl : (ending N).length = n1 := by rw [← hend, lay_len _ _ _ (by rw [hY1l, hB2l]; omega), hY1l]
  have hgl4 : g < w4.heap.size := Nat.lt_of_lt_of_le hgl3 hk4.size
  have hrd4 := range_rd hlay2 hgl4 0 (by omega)
  rw [Nat.add_zero, List.drop_zero, bv_len, hendl, Nat.sub_zero] at hrd4
  have hbw : Below g w w4 := by
    have e1 : Below g w w1 := hb1
    exact (hk4.below (hk3.below (hk2.below e1 (by have := hb1.size; omega) (Nat.le_refl _)) (by omega) (Nat.le_refl _)) (by omega) (Nat.le_refl _))
  have HPUT1 := Lib.hid hput1
  have HPUT2 := Lib.hid hput2
  have HR2 := Lib.hid hrd2
  have HR3 := Lib.hid hrd3
  have HFIN := Lib.hid (⟨hrd4, hbw, hendl, hcap.1⟩ : Rd w4 w4.heap.size (some ⟨g, 0, none⟩) n1 (bv (ending N)) ∧ Below g w w4 ∧ (ending N).length = n1 ∧ n1 ≤ c1)
  have HG := Lib.hid hg
  have ha1 : (some (⟨g, 0, none⟩ : Addr)).map (·.add (1 + (no : Int)).toNat) = some ⟨g, 1 + no, none⟩ := by
    rw [show (1 + (no : Int)).toNat = 1 + no by omega]
    show some (Addr.add _ _) = _
    rw [Addr.add_mid, Nat.zero_add]
  have ha2 : (some (⟨g, 0, none⟩ : Addr)).map (·.add (1 + (no : Int) + 4).toNat) = some ⟨g, 1 + no + 4, none⟩ := by
    rw [show (1 + (no : Int) + 4).toNat = 1 + no + 4 by omega]
    show some (Addr.add _ _) = _
    rw [Addr.add_mid, Nat.zero_add]
  have HA1 := Lib.hid ha1
  have HA2 := Lib.hid ha2
  clear ho hr1 ht1 hlay0 ht2 hk2 hw2' hc0 hY0 hY0l hrd2 hput1 hB1 hB2 hB1l hB2l hlay1 ht3 hk3 hw3 hY1 hY1l hrd3 hput2 hlay2 hk4 hw4 hend hendl hrd4 hbw hgl hgl2 hgl3 hgl4 hcap hb1 hg1 hsz hb hg ha1 ha2
  subst hn1b
  go_wp2_with (first
    | (refine wp_cut_l u8ty rfl (.tmp 24) (.tmp 26) rfl rfl rfl HR2.out (by omega) (by omega) hcapc ?_; intro A' n' c' hn' hc' h2' hA'; obtain rfl : A' = some ⟨g, 1 + no, none⟩ := (hA' (by omega)).trans HA1.out; obtain rfl : n' = 8 := (by omega); obtain rfl : c' = c1 - (1 + no) := (by omega); clear hn' hc' h2' hA')
    | (refine wp_cut_l u8ty rfl (.tmp 32) (.tmp 35) rfl rfl rfl HR3.out (by omega) (by omega) hcapc ?_; intro A' n' c' hn' hc' h2' hA'; obtain rfl : A' = some ⟨g, 1 + no + 4, none⟩ := (hA' (by omega)).trans HA2.out; obtain rfl : n' = 4 := (by omega); obtain rfl : c' = c1 - (1 + no + 4) := (by omega); clear hn' hc' h2' hA')
    | (go_at_call 76; with_reducible refine HPUT1.out.mono ?_; rintro e w' ⟨rfl, rfl⟩)
    | (go_at_call 76; with_reducible refine HPUT2.out.mono ?_; rintro e w' ⟨rfl, rfl⟩)
    | fail)
  go_ret
  obtain ⟨q1, q2, q3, q4⟩ := HFIN.out
  exact ⟨g, 1 + no + 8, c1, rfl, by rw [HG.out]; exact Nat.le_refl _, q4, q3.symm, q1, by rw [HG.out]; exact q2⟩
end Go.Proofs.YtbcgnacfhpahkaaDoor.dg
