/- Contract of digest's mix. The tables lie in their variables. -/
import Derived.Test.YtbcgnacfhpahkaaDoorDgC
namespace Go.Proofs.YtbcgnacfhpahkaaDoor.dg
open Go.RowKit Mem DM
set_option linter.unusedVariables false
/-- the tables' cells -/
def Tab (w : World) : Prop := w.rangeAt 0 0 (wvs roots) ∧ w.rangeAt 1 0 (wvs cubes)
theorem Tab.pos {w : World} (h : Tab w) : 0 < w.heap.size ∧ 1 < w.heap.size := ⟨cell_lt (h.1 0 _ rfl), cell_lt (h.2 0 _ rfl)⟩
theorem Tab.below {w w' : World} (h : Tab w) (hb : Below w.heap.size w w') : Tab w' := ⟨range_below h.1 hb h.pos.1, range_below h.2 hb h.pos.2⟩
/-- what the world keeps, but for some cells of one block -/
structure KeepR (w w' : World) (b o n : Nat) : Prop where
  k : Keep1 w w' b
  cells : ∀ j, j < o ∨ o + n ≤ j → w'.cell? ⟨b, j, none⟩ = w.cell? ⟨b, j, none⟩
  fz : ∀ j, w'.frozen? ⟨b, j, none⟩ = w.frozen? ⟨b, j, none⟩
theorem KeepR.refl (w : World) (b o n : Nat) : KeepR w w b o n := ⟨Keep1.refl w b, fun _ _ => rfl, fun _ => rfl⟩
theorem KeepR.trans {w w1 w2 : World} {b o n : Nat} (h : KeepR w w1 b o n) (k : KeepR w1 w2 b o n) : KeepR w w2 b o n :=
  ⟨h.k.trans k.k, fun j hj => (k.cells j hj).trans (h.cells j hj), fun j => (k.fz j).trans (h.fz j)⟩
theorem KeepR.set {w : World} {b o n i : Nat} (v : Value) (h1 : o ≤ i) (h2 : i < o + n) : KeepR w (w.setCell ⟨b, i, none⟩ v) b o n :=
  ⟨Keep1.set w b i v, fun j hj => World.cell?_setCell_other w _ _ _ (fun e => by injection e with _ e2; omega), fun j => World.frozen?_setCell w _ _ _⟩
theorem KeepR.drew {w w' : World} {b o n : Nat} (h : KeepR w w' b o n) : KeepR w w'.drew b o n := ⟨h.k.drew, h.cells, h.fz⟩
theorem KeepR.of {w w' : World} {b o n : Nat} (h : Below w.heap.size w w') (hb : b < w.heap.size) : KeepR w w' b o n :=
  ⟨Keep1.of h, fun j _ => h.cell (p := ⟨b, j, none⟩) hb, fun j => World.frozen?_of_block (w := w) (h.block b hb)⟩
theorem u32size (w : World) : (sizeOf 96).run Tryd.prog w = .ok 1 w := by
  have h : (Tryd.prog.info? 96).map (fun i => i.size) = some 1 := by kernel_rfl
  obtain ⟨i, hi, hs⟩ := Option.map_eq_some_iff.1 h
  simp [sizeOf, typeInfo, hi, hs]
theorem index_arr {T : TypeId} {N : Nat} (hu : Tryd.prog.underlying T = some (.array N 96)) (cs : List Value) (t : Nat) (v : Value) (h : cs[t]? = some v) (ht : t < N) (w : World) :
    (Instr.index T (.agg cs.toArray) (.int .i64 (t : Int))).run Tryd.prog w = .ok v w := by
  have hs := u32size w
  have hr : (0 : Int) ≤ (t : Int) ∧ (t : Int) < (N : Int) := by omega
  unfold Instr.index
  simp only [asIntOf, Sem.run_bind, Sem.run_pure, Result.andThen_ok, run_underlying hu w]
  rw [if_pos hr]
  simp [part, Sem.run_bind, hs, h]
theorem not_w (x : UInt32) : bits BinOp.xor IntKind.u32 IntKind.u32.max (x.toNat : Int) = ((~~~x).toNat : Int) := by
  have h := x.toNat_lt
  rw [show IntKind.u32.max = ((4294967295 : Nat) : Int) by decide, u32_xor_nat _ _ (by decide) h, UInt32.toNat_not]
  congr 1
  apply Nat.eq_of_testBit_eq
  intro i
  rw [Nat.testBit_xor]
  rw [show (4294967295 : Nat) = 2 ^ 32 - 1 by decide, Nat.testBit_two_pow_sub_one]
  rw [show UInt32.size - 1 - x.toNat = 2 ^ 32 - (x.toNat + 1) by show 4294967296 - 1 - x.toNat = _; omega, Nat.testBit_two_pow_sub_succ h]
  by_cases hi : i < 32
  · simp [hi]
  · have : x.toNat.testBit i = false := Nat.testBit_lt_two_pow (Nat.lt_of_lt_of_le h (Nat.pow_le_pow_right (by omega) (by omega)))
    simp [hi, this]
theorem low_val (s : St) (k x : UInt32) :
    ((s.h.toNat : Int) + bits BinOp.xor IntKind.u32 (bits BinOp.xor IntKind.u32 ((rr s.e 6).toNat : Int) ((rr s.e 11).toNat : Int)) ((rr s.e 25).toNat : Int) +
      bits BinOp.xor IntKind.u32 (bits BinOp.and IntKind.u32 (s.e.toNat : Int) (s.f.toNat : Int)) (bits BinOp.and IntKind.u32 (bits BinOp.xor IntKind.u32 IntKind.u32.max (s.e.toNat : Int)) (s.g.toNat : Int)) + (k.toNat : Int) + (x.toNat : Int)) % 4294967296 = ((low s k x).toNat : Int) := by
  rw [not_w, and_w, and_w, xor_w, xor_w, xor_w]
  unfold low
  rw [UInt32.toNat_add, UInt32.toNat_add, UInt32.toNat_add, UInt32.toNat_add]
  omega
theorem low_val2 (s : St) (k x : UInt32) :
    IntKind.u32.wrap (IntKind.u32.wrap (IntKind.u32.wrap (IntKind.u32.wrap ((s.h.toNat : Int) + bits BinOp.xor IntKind.u32 (bits BinOp.xor IntKind.u32 ((rr s.e 6).toNat : Int) ((rr s.e 11).toNat : Int)) ((rr s.e 25).toNat : Int)) +
      bits BinOp.xor IntKind.u32 (bits BinOp.and IntKind.u32 (s.e.toNat : Int) (s.f.toNat : Int)) (bits BinOp.and IntKind.u32 (bits BinOp.xor IntKind.u32 IntKind.u32.max (s.e.toNat : Int)) (s.g.toNat : Int))) + (k.toNat : Int)) + (x.toNat : Int)) = ((low s k x).toNat : Int) := by
  rw [← low_val]
  simp only [wrap_u32]
  omega
theorem high_val (s : St) :
    (bits BinOp.xor IntKind.u32 (bits BinOp.xor IntKind.u32 ((rr s.a 2).toNat : Int) ((rr s.a 13).toNat : Int)) ((rr s.a 22).toNat : Int) +
      bits BinOp.xor IntKind.u32 (bits BinOp.xor IntKind.u32 (bits BinOp.and IntKind.u32 (s.a.toNat : Int) (s.b.toNat : Int)) (bits BinOp.and IntKind.u32 (s.a.toNat : Int) (s.c.toNat : Int))) (bits BinOp.and IntKind.u32 (s.b.toNat : Int) (s.c.toNat : Int))) % 4294967296 = ((high s).toNat : Int) := by
  rw [and_w, and_w, and_w, xor_w, xor_w, xor_w, xor_w]
  unfold high
  rw [UInt32.toNat_add]
  omega
set_option maxRecDepth 100000 in
set_option maxHeartbeats 16000000 in
theorem mix_any (b o : Nat) (s : St) (V : List UInt32) (hV : V.length = 64) (w : World) (hT : Tab w) (hs : w.rangeAt b o (wvs (stL s))) (ht : w.there b o 8) (hb : b < w.heap.size) :
    Calls Tryd.prog 73 #[.pointer (some ⟨b, o, none⟩), .agg (wvs V).toArray] w fun e w' => e = .returned (.tuple #[]) ∧ w'.rangeAt b o (wvs (stL (mixed s V))) ∧ KeepR w w' b o 8 := by
  obtain ⟨cs, hcs⟩ : ∃ cs, wvs V = cs := ⟨_, rfl⟩
  obtain ⟨W, hW⟩ : ∃ W, W = w.alloc (.cells cs.toArray 114) := ⟨_, rfl⟩
  obtain ⟨g, hg⟩ : ∃ g, g = w.heap.size := ⟨_, rfl⟩
  have hWB : Below w.heap.size w W := by rw [hW]; exact (Below.refl _ _).alloc (Nat.le_refl _) _
  have hWs : W.heap.size = g + 1 := by rw [hW, hg]; simp
  have hcw : W.rangeAt g 0 cs := by rw [hW, hg]; exact range_new w cs _
  have hT2 := hT.below hWB
  have hs2 := range_below hs hWB hb
  have ht2 := there_below ht hWB hb hb
  have hcub : (wvs cubes).length = 64 := by rw [wvs_len]; rfl
  obtain ⟨TB, hTB⟩ : ∃ TB, wvs cubes = TB := ⟨_, rfl⟩
  have htab := hT2.2
  rw [hTB] at htab hcub
  have HCS := Lib.hid hcs
  have HW := Lib.hid hW
  have HG := Lib.hid hg
  have HCW := Lib.hid hcw
  have HS2 := Lib.hid hs2
  have HT2 := Lib.hid ht2
  have HTB := Lib.hid hTB
  have HWS := Lib.hid hWs
  have HVL := Lib.hid hV
  have c0 : W.cell? ⟨b, o + 0, none⟩ = some (wv s.a) := hs2 0 _ rfl
  have c1 : W.cell? ⟨b, o + 1, none⟩ = some (wv s.b) := hs2 1 _ rfl
  have c2 : W.cell? ⟨b, o + 2, none⟩ = some (wv s.c) := hs2 2 _ rfl
  have c3 : W.cell? ⟨b, o + 3, none⟩ = some (wv s.d) := hs2 3 _ rfl
  have c4 : W.cell? ⟨b, o + 4, none⟩ = some (wv s.e) := hs2 4 _ rfl
  have c5 : W.cell? ⟨b, o + 5, none⟩ = some (wv s.f) := hs2 5 _ rfl
  have c6 : W.cell? ⟨b, o + 6, none⟩ = some (wv s.g) := hs2 6 _ rfl
  have c7 : W.cell? ⟨b, o + 7, none⟩ = some (wv s.h) := hs2 7 _ rfl
  rw [Nat.add_zero] at c0
  unfold wv at c0 c1 c2 c3 c4 c5 c6 c7
  obtain ⟨ya, hia⟩ : ∃ z, s.a.toNat = z := ⟨_, rfl⟩
  obtain ⟨yb, hib⟩ : ∃ z, s.b.toNat = z := ⟨_, rfl⟩
  obtain ⟨yc, hic⟩ : ∃ z, s.c.toNat = z := ⟨_, rfl⟩
  obtain ⟨yd, hid⟩ : ∃ z, s.d.toNat = z := ⟨_, rfl⟩
  obtain ⟨ye, hie⟩ : ∃ z, s.e.toNat = z := ⟨_, rfl⟩
  obtain ⟨yf, hif⟩ : ∃ z, s.f.toNat = z := ⟨_, rfl⟩
  obtain ⟨yg, hig⟩ : ∃ z, s.g.toNat = z := ⟨_, rfl⟩
  obtain ⟨yh, hih⟩ : ∃ z, s.h.toNat = z := ⟨_, rfl⟩
  rw [hia] at c0
  rw [hib] at c1
  rw [hic] at c2
  rw [hid] at c3
  rw [hie] at c4
  rw [hif] at c5
  rw [hig] at c6
  rw [hih] at c7
  have HI := Lib.hid (⟨hia, hib, hic, hid, hie, hif, hig, hih⟩ : s.a.toNat = ya ∧ s.b.toNat = yb ∧ s.c.toNat = yc ∧ s.d.toNat = yd ∧ s.e.toNat = ye ∧ s.f.toNat = yf ∧ s.g.toNat = yg ∧ s.h.toNat = yh)
  rw [hcs]
  clear hs ht hs2 ht2 hT2 hW hg hcw hcs hTB hT hia hib hic hid hie hif hig hih
  go_enter Tryd.func73, Tryd.ntmps73
  go_wp2_with fail
  rw [← HW.out, ← HG.out]
  go_region_held3 (fun w' => w'.cell? ⟨b, o, none⟩ = some (.int .u32 ya) ∧ w'.cell? ⟨b, o + 1, none⟩ = some (.int .u32 yb) ∧ w'.cell? ⟨b, o + 2, none⟩ = some (.int .u32 yc) ∧ w'.cell? ⟨b, o + 3, none⟩ = some (.int .u32 yd) ∧ w'.cell? ⟨b, o + 4, none⟩ = some (.int .u32 ye) ∧ w'.cell? ⟨b, o + 5, none⟩ = some (.int .u32 yf) ∧ w'.cell? ⟨b, o + 6, none⟩ = some (.int .u32 yg) ∧ w'.cell? ⟨b, o + 7, none⟩ = some (.int .u32 yh)) (exact ⟨c0, c1, c2, c3, c4, c5, c6, c7⟩) (fail)
  go_wp2_with (first
    | (refine wpList_load_mid rfl 114 _ rfl 1 0 rfl TB _ htab Tryd.underlying114 rfl (by rw [hcub]; kernel_rfl) ?_)
    | fail)
  obtain ⟨wd0, hwd0⟩ : ∃ z, W.drew = z := ⟨_, rfl⟩
  have HWD := Lib.hid hwd0
  rw [hwd0]
  go_loopw [4, 5, 6, 7, 8, 9, 10, 11, 12, 13, 14, 15, 51] (fun la lb lc ld le lf lg lh _ _ _ _ i wr => ∃ t q : Nat, i = .int .i64 t ∧ t ≤ 64 ∧ wr = W.drewN q ∧ la = wv (roundsN s cubes V t).a ∧ lb = wv (roundsN s cubes V t).b ∧ lc = wv (roundsN s cubes V t).c ∧ ld = wv (roundsN s cubes V t).d ∧ le = wv (roundsN s cubes V t).e ∧ lf = wv (roundsN s cubes V t).f ∧ lg = wv (roundsN s cubes V t).g ∧ lh = wv (roundsN s cubes V t).h) (fun _ _ _ _ _ _ _ _ _ _ _ _ i _ => 64 - (intOf i).toNat)
  case atStart => exact ⟨0, 1, rfl, by omega, HWD.out.symm, (by rw [← HI.out.1]; rfl), (by rw [← HI.out.2.1]; rfl), (by rw [← HI.out.2.2.1]; rfl), (by rw [← HI.out.2.2.2.1]; rfl), (by rw [← HI.out.2.2.2.2.1]; rfl), (by rw [← HI.out.2.2.2.2.2.1]; rfl), (by rw [← HI.out.2.2.2.2.2.2.1]; rfl), (by rw [← HI.out.2.2.2.2.2.2.2]; rfl)⟩
  case round =>
    obtain ⟨t, q, rfl, ht, rfl, rfl, rfl, rfl, rfl, rfl, rfl, rfl, rfl⟩ := hrel
    by_cases hlt : t < 64
    · obtain ⟨R, hR⟩ : ∃ R, roundsN s cubes V t = R := ⟨_, rfl⟩
      obtain ⟨K, hK0⟩ : ∃ K, cubes.getD t 0 = K := ⟨_, rfl⟩
      obtain ⟨X, hX0⟩ : ∃ X, V.getD t 0 = X := ⟨_, rfl⟩
      have hRn : roundsN s cubes V (t + 1) = DM.step R K X := by rw [roundsN, hR, hK0, hX0]
      have hkc : TB[t]? = some (wv K) := by rw [← HTB.out, wvs_at cubes t (by show t < 64; exact hlt), hK0]
      have hxc : (W.drewN q).cell? ⟨g, t, none⟩ = some (wv X) := by
        have := HCW.out t (wv X) (by rw [← HCS.out, wvs_at V t (by rw [HVL.out]; exact hlt), hX0])
        rw [Nat.zero_add] at this
        exact this
      have r6 : ∀ w : World, Calls Tryd.prog 90 #[.int .u32 (R.e.toNat : Int), .int .i64 6] w fun e w' => e = .returned (.int .u32 ((rr R.e 6).toNat : Int)) ∧ w = w' := fun w => right_any R.e 6 (by omega) (by omega) w
      have r11 : ∀ w : World, Calls Tryd.prog 90 #[.int .u32 (R.e.toNat : Int), .int .i64 11] w fun e w' => e = .returned (.int .u32 ((rr R.e 11).toNat : Int)) ∧ w = w' := fun w => right_any R.e 11 (by omega) (by omega) w
      have r25 : ∀ w : World, Calls Tryd.prog 90 #[.int .u32 (R.e.toNat : Int), .int .i64 25] w fun e w' => e = .returned (.int .u32 ((rr R.e 25).toNat : Int)) ∧ w = w' := fun w => right_any R.e 25 (by omega) (by omega) w
      have r2 : ∀ w : World, Calls Tryd.prog 90 #[.int .u32 (R.a.toNat : Int), .int .i64 2] w fun e w' => e = .returned (.int .u32 ((rr R.a 2).toNat : Int)) ∧ w = w' := fun w => right_any R.a 2 (by omega) (by omega) w
      have r13 : ∀ w : World, Calls Tryd.prog 90 #[.int .u32 (R.a.toNat : Int), .int .i64 13] w fun e w' => e = .returned (.int .u32 ((rr R.a 13).toNat : Int)) ∧ w = w' := fun w => right_any R.a 13 (by omega) (by omega) w
      have r22 : ∀ w : World, Calls Tryd.prog 90 #[.int .u32 (R.a.toNat : Int), .int .i64 22] w fun e w' => e = .returned (.int .u32 ((rr R.a 22).toNat : Int)) ∧ w = w' := fun w => right_any R.a 22 (by omega) (by omega) w
      have hlow := low_val2 R K X
      have hhigh := high_val R
      have hna := add_w (low R K X) (high R)
      have hne := add_w R.d (low R K X)
      rw [hR]
      unfold wv at *
      obtain ⟨Na, hNa⟩ : ∃ z, R.a.toNat = z := ⟨_, rfl⟩
      obtain ⟨Nb, hNb⟩ : ∃ z, R.b.toNat = z := ⟨_, rfl⟩
      obtain ⟨Nc, hNc⟩ : ∃ z, R.c.toNat = z := ⟨_, rfl⟩
      obtain ⟨Nd, hNd⟩ : ∃ z, R.d.toNat = z := ⟨_, rfl⟩
      obtain ⟨Ne, hNe⟩ : ∃ z, R.e.toNat = z := ⟨_, rfl⟩
      obtain ⟨Nf, hNf⟩ : ∃ z, R.f.toNat = z := ⟨_, rfl⟩
      obtain ⟨Ng, hNg⟩ : ∃ z, R.g.toNat = z := ⟨_, rfl⟩
      obtain ⟨Nh, hNh⟩ : ∃ z, R.h.toNat = z := ⟨_, rfl⟩
      obtain ⟨P6, hP6⟩ : ∃ z, (rr R.e 6).toNat = z := ⟨_, rfl⟩
      obtain ⟨P11, hP11⟩ : ∃ z, (rr R.e 11).toNat = z := ⟨_, rfl⟩
      obtain ⟨P25, hP25⟩ : ∃ z, (rr R.e 25).toNat = z := ⟨_, rfl⟩
      obtain ⟨P2, hP2⟩ : ∃ z, (rr R.a 2).toNat = z := ⟨_, rfl⟩
      obtain ⟨P13, hP13⟩ : ∃ z, (rr R.a 13).toNat = z := ⟨_, rfl⟩
      obtain ⟨P22, hP22⟩ : ∃ z, (rr R.a 22).toNat = z := ⟨_, rfl⟩
      obtain ⟨NK, hNK⟩ : ∃ z, K.toNat = z := ⟨_, rfl⟩
      obtain ⟨NX, hNX⟩ : ∃ z, X.toNat = z := ⟨_, rfl⟩
      obtain ⟨NL, hNL⟩ : ∃ z, (low R K X).toNat = z := ⟨_, rfl⟩
      obtain ⟨NH, hNH⟩ : ∃ z, (high R).toNat = z := ⟨_, rfl⟩
      obtain ⟨NNA, hNNA⟩ : ∃ z, (low R K X + high R).toNat = z := ⟨_, rfl⟩
      obtain ⟨NNE, hNNE⟩ : ∃ z, (R.d + low R K X).toNat = z := ⟨_, rfl⟩
      rw [hNh, hP6, hP11, hP25, hNe, hNf, hNg, hNK, hNX, hNL] at hlow
      rw [hP2, hP13, hP22, hNa, hNb, hNc, hNH] at hhigh
      rw [hNL, hNH, hNNA] at hna
      rw [hNd, hNL, hNNE] at hne
      rw [hNe, hP6] at r6
      rw [hNe, hP11] at r11
      rw [hNe, hP25] at r25
      rw [hNa, hP2] at r2
      rw [hNa, hP13] at r13
      rw [hNa, hP22] at r22
      rw [hNK] at hkc
      rw [hNX] at hxc
      rw [hNa, hNb, hNc, hNd, hNe, hNf, hNg, hNh]
      have Q6 := Lib.hid r6
      have Q11 := Lib.hid r11
      have Q25 := Lib.hid r25
      have Q2 := Lib.hid r2
      have Q13 := Lib.hid r13
      have Q22 := Lib.hid r22
      have HLOW := Lib.hid hlow
      have HHIGH := Lib.hid hhigh
      have HNA := Lib.hid hna
      have HNE := Lib.hid hne
      have HRN := Lib.hid hRn
      have HNN := Lib.hid (⟨hNa, hNb, hNc, hNe, hNf, hNg, hNNA, hNNE⟩ : R.a.toNat = Na ∧ R.b.toNat = Nb ∧ R.c.toNat = Nc ∧ R.e.toNat = Ne ∧ R.f.toNat = Nf ∧ R.g.toNat = Ng ∧ (low R K X + high R).toNat = NNA ∧ (R.d + low R K X).toNat = NNE)
      have kt : (t : Int) < 64 := by omega
      have hix : ∀ w : World, (Instr.index 114 (.agg TB.toArray) (.int .i64 (t : Int))).run Tryd.prog w = .ok (.int .u32 NK) w := fun w => index_arr Tryd.underlying114 TB t _ hkc hlt w
      clear hkc
      clear hlow hhigh hna hne hRn r6 r11 r25 r2 r13 r22 hR hK0 hX0 hNa hNb hNc hNd hNe hNf hNg hNh hP6 hP11 hP25 hP2 hP13 hP22 hNK hNX hNL hNH hNNA hNNE c0 c1 c2 c3 c4 c5 c6 c7
      obtain ⟨U, hU⟩ : ∃ z, W.drewN q = z := ⟨_, rfl⟩
      have HU := Lib.hid hU
      rw [hU] at hxc ⊢
      clear hU
      go_wp2_with fail
      go_region_held3 (fun w' => w'.cell? ⟨g, t, none⟩ = some (.int .u32 NX)) (exact hxc)
        (first
          | (go_at_call 90; with_reducible refine (Q6.out _).mono ?_; rintro e w' ⟨rfl, rfl⟩)
          | (go_at_call 90; with_reducible refine (Q11.out _).mono ?_; rintro e w' ⟨rfl, rfl⟩)
          | (go_at_call 90; with_reducible refine (Q25.out _).mono ?_; rintro e w' ⟨rfl, rfl⟩)
          | fail)
      rw [HLOW.out]
      have hhigh := HHIGH.out
      have hna := HNA.out
      have hne := HNE.out
      clear hix HLOW HHIGH HNA HNE Q6 Q11 Q25
      go_wp2_with (first
        | (go_at_call 90; with_reducible refine (Q2.out _).mono ?_; rintro e w' ⟨rfl, rfl⟩)
        | (go_at_call 90; with_reducible refine (Q13.out _).mono ?_; rintro e w' ⟨rfl, rfl⟩)
        | (go_at_call 90; with_reducible refine (Q22.out _).mono ?_; rintro e w' ⟨rfl, rfl⟩)
        | fail)
      obtain ⟨e1, e2, e3, e4, e5, e6, e7, e8⟩ := HNN.out
      refine ⟨⟨t + 1, q + 1, by go_num, by omega, (by rw [← HU.out]; rfl), ?_, ?_, ?_, ?_, ?_, ?_, ?_, ?_⟩, by simp [intOf]; omega⟩
      · rw [HRN.out, hna, ← e7]; rfl
      · rw [HRN.out, ← e1]; rfl
      · rw [HRN.out, ← e2]; rfl
      · rw [HRN.out, ← e3]; rfl
      · rw [HRN.out, hne, ← e8]; rfl
      · rw [HRN.out, ← e4]; rfl
      · rw [HRN.out, ← e5]; rfl
      · rw [HRN.out, ← e6]; rfl
    · obtain rfl : t = 64 := by omega
      have hold : ∀ k, k < 8 → (W.drewN q).cell? ⟨b, o + k, none⟩ = some (wv ((stL s).getD k 0)) := fun k hk => HS2.out k _ (wvs_at (stL s) k hk)
      have hmx : ∀ k, k < 8 → (stL (mixed s V)).getD k 0 = (stL s).getD k 0 + (stL (roundsN s cubes V 64)).getD k 0 := fun k hk => by
        match k, hk with
        | 0, _ => rfl
        | 1, _ => rfl
        | 2, _ => rfl
        | 3, _ => rfl
        | 4, _ => rfl
        | 5, _ => rfl
        | 6, _ => rfl
        | 7, _ => rfl
      have HMX := Lib.hid hmx
      have hthq : (W.drewN q).there b o 8 := HT2.out
      have hkq : KeepR W (W.drewN q) b o 8 := ⟨⟨rfl, rfl, rfl, Nat.le_refl _, fun _ _ _ => rfl⟩, fun _ _ => rfl, fun _ => rfl⟩
      obtain ⟨RR, hRR⟩ : ∃ RR, roundsN s cubes V 64 = RR := ⟨_, rfl⟩
      rw [hRR] at hmx ⊢
      have hix : ∀ (j : Nat), j < 8 → ∀ w : World, (Instr.index 107 (.agg #[.int .u32 (RR.a.toNat : Int), .int .u32 (RR.b.toNat : Int), .int .u32 (RR.c.toNat : Int), .int .u32 (RR.d.toNat : Int), .int .u32 (RR.e.toNat : Int), .int .u32 (RR.f.toNat : Int), .int .u32 (RR.g.toNat : Int), .int .u32 (RR.h.toNat : Int)]) (.int .i64 (j : Int))).run Tryd.prog w = .ok (wv ((stL RR).getD j 0)) w := fun j hj w => index_arr (N := 8) Tryd.underlying107 (wvs (stL RR)) j _ (wvs_at (stL RR) j hj) hj w
      unfold wv at hix ⊢
      obtain ⟨Ma, hMa⟩ : ∃ z, RR.a.toNat = z := ⟨_, rfl⟩
      obtain ⟨Mb, hMb⟩ : ∃ z, RR.b.toNat = z := ⟨_, rfl⟩
      obtain ⟨Mc, hMc⟩ : ∃ z, RR.c.toNat = z := ⟨_, rfl⟩
      obtain ⟨Md, hMd⟩ : ∃ z, RR.d.toNat = z := ⟨_, rfl⟩
      obtain ⟨Me, hMe⟩ : ∃ z, RR.e.toNat = z := ⟨_, rfl⟩
      obtain ⟨Mf, hMf⟩ : ∃ z, RR.f.toNat = z := ⟨_, rfl⟩
      obtain ⟨Mg, hMg⟩ : ∃ z, RR.g.toNat = z := ⟨_, rfl⟩
      obtain ⟨Mh, hMh⟩ : ∃ z, RR.h.toNat = z := ⟨_, rfl⟩
      rw [hMa, hMb, hMc, hMd, hMe, hMf, hMg, hMh] at hix ⊢
      clear hMa hMb hMc hMd hMe hMf hMg hMh
      have HIX := Lib.hid hix
      have HMX := Lib.hid hmx
      have HHO := Lib.hid hold
      obtain ⟨U, hU⟩ : ∃ z, W.drewN q = z := ⟨_, rfl⟩
      rw [hU] at hthq hkq hold ⊢
      clear hix hmx HHO hU
      go_wp2_with fail
      go_loopw [16, 17, 122] (fun _ _ i wr => ∃ j : Nat, i = .int .i64 j ∧ j ≤ 8 ∧ KeepR W wr b o 8 ∧ wr.there b o 8 ∧ ∀ k, k < 8 → wr.cell? ⟨b, o + k, none⟩ = some (wv (if k < j then (stL (mixed s V)).getD k 0 else (stL s).getD k 0))) (fun _ _ i _ => 8 - (intOf i).toNat)
      case atStart => exact ⟨0, rfl, by omega, hkq, hthq, fun k hk => by rw [if_neg (by omega)]; exact hold k hk⟩
      case round =>
        clear hold hthq hkq
        obtain ⟨j, rfl, hj, hkr, hth, hcs⟩ := hrel
        by_cases hlt : j < 8
        · have hcj := hcs j hlt
          rw [if_neg (by omega)] at hcj
          have hz := (hth j hlt).2
          have hix := HIX.out j hlt
          have hmx := HMX.out j hlt
          have hadd := add_w ((stL s).getD j 0) ((stL RR).getD j 0)
          rw [← hmx] at hadd
          obtain ⟨new, hnew⟩ : ∃ z, (stL (mixed s V)).getD j 0 = z := ⟨_, rfl⟩
          rw [hnew] at hadd
          unfold wv at hcj
          obtain ⟨O1, hO1⟩ : ∃ z, ((stL s).getD j 0).toNat = z := ⟨_, rfl⟩
          obtain ⟨O2, hO2⟩ : ∃ z, ((stL RR).getD j 0).toNat = z := ⟨_, rfl⟩
          obtain ⟨O3, hO3⟩ : ∃ z, new.toNat = z := ⟨_, rfl⟩
          rw [hO1] at hcj hadd
          rw [hO2] at hix hadd
          rw [hO3] at hadd
          have HNEW := Lib.hid hnew
          have HO3 := Lib.hid hO3
          have HADD := Lib.hid hadd
          have HKR := Lib.hid hkr
          have HTH := Lib.hid hth
          have HCJ := Lib.hid hcs
          have kj : (j : Int) < 8 := by omega
          clear hmx hnew hO1 hO2 hO3 hadd hkr hth hcs
          go_wp2_with fail
          go_region
          rw [HADD.out]
          go_wp2_with fail
          refine ⟨⟨j + 1, by go_num, by omega, (HKR.out.trans (KeepR.set _ (by omega) (by omega))).drew, there_set HTH.out b (o + j) [.int .u32 (O3 : Int)] (there_sub HTH.out j 1 (by omega)), fun k hk => ?_⟩, by simp [intOf]; omega⟩
          by_cases hkj : k = j
          · subst hkj
            rw [if_pos (by omega), HNEW.out]
            show (wr.setCell ⟨b, o + k, none⟩ (.int .u32 (O3 : Int))).cell? _ = _
            rw [World.cell?_setCell_same wr _ _ hcj]
            unfold wv
            rw [HO3.out]
          · have hold2 := HCJ.out k hk
            show (wr.setCell ⟨b, o + j, none⟩ (.int .u32 (O3 : Int))).cell? _ = _
            rw [World.cell?_setCell_other wr _ _ _ (fun e => hkj (by injection e with _ e2; omega)), hold2]
            by_cases hkl : k < j
            · rw [if_pos hkl, if_pos (by omega)]
            · rw [if_neg hkl, if_neg (by omega)]
        · obtain rfl : j = 8 := by omega
          have HKR := Lib.hid hkr
          have HCJ := Lib.hid hcs
          clear hkr hcs hth
          go_wp2_with fail
          go_end0
          refine ⟨rfl, fun k v hv => ?_, (KeepR.of hWB hb).trans HKR.out⟩
          have hk : k < 8 := by
            have := (List.getElem?_eq_some_iff.1 hv).1
            simpa [wvs, stL] using this
          have := HCJ.out k hk
          rw [if_pos hk] at this
          rw [wvs_at (stL (mixed s V)) k hk] at hv
          injection hv with hv
          rw [← hv]
          exact this
end Go.Proofs.YtbcgnacfhpahkaaDoor.dg
