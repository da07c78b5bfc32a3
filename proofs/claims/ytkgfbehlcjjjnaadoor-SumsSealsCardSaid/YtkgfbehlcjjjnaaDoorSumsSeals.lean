/- SumsSeals: for every input the law answers true and leaves its arguments as they were; the table that the program lays is tied to its text. -/
import Derived.Test.YtkgfbehlcjjjnaaDoorSumF
import Derived.Test.YtkgfbehlcjjjnaaDoorSumH
import Derived.Test.YtkgfbehlcjjjnaaDoorSumD
namespace Go.Proofs.YtkgfbehlcjjjnaaDoor.sumsSealsDone
open Go.RowKit Mem SM lib CM sum
theorem open_same (m : List UInt8) : ∃ (f : Int) (ys : List UInt8), ys.length ≤ m.length ∧ ∀ (w : World) (e : Ending) (w' : World), OpenRes w m e w' → Below w.heap.size w w' ∧ ∃ A n c, e = .returned (.tuple #[.slice A n c, .int .i64 f]) ∧ Ow w' w.heap.size 5 A n c (bv ys) := by
  by_cases h4 : m.length < 4
  · refine ⟨2, [], by simp, fun w e w' h => ?_⟩
    obtain ⟨hb, h | ⟨h, _⟩ | ⟨t, A, n, c, h1, _⟩⟩ := h
    · exact ⟨hb, _, _, _, h.2, Ow.nil _ _ _⟩
    · omega
    · rw [h1] at h4; simp [le4] at h4; omega
  by_cases hs : ∃ t, m = t ++ le4 (CM.crc t)
  · obtain ⟨t, ht⟩ := hs
    refine ⟨0, t, by rw [ht]; simp, fun w e w' h => ?_⟩
    obtain ⟨hb, h | ⟨_, h, _⟩ | ⟨t2, A, n, c, h1, h2, h3⟩⟩ := h
    · exact absurd h.1 h4
    · exact absurd ht (h t)
    · have hl : t.length = t2.length := by have := congrArg List.length (ht.symm.trans h1); simp [le4] at this; omega
      obtain ⟨e1, _⟩ := List.append_inj (ht.symm.trans h1) hl
      exact ⟨hb, A, n, c, h2, by rw [e1]; exact h3⟩
  · refine ⟨10, [], by simp, fun w e w' h => ?_⟩
    obtain ⟨hb, h | ⟨_, _, h⟩ | ⟨t2, A, n, c, h1, _⟩⟩ := h
    · exact absurd h.1 h4
    · exact ⟨hb, _, _, _, h, Ow.nil _ _ _⟩
    · exact absurd ⟨t2, h1⟩ hs
/-- a row of later making stays as it is where an elder one is made longer and its first cell is written -/
theorem keeps {w6 w7 : World} {B B2 : Nat} {E E2 : TypeId} {A3 A4 : Option Addr} {g n7 c7 n4 c4 : Nat} {xs ys : List Value} {o : Obj} (ho7 : Ow w7 B E (some ⟨g, 0, none⟩) n7 c7 xs) (hp : 0 < n7)
    (hy : Ow w6 B2 E2 A4 n4 c4 ys) (hg : Grew (w6.alloc o) w7 A3 (some ⟨g, 0, none⟩)) (hne : blk A4 = none ∨ blk A4 ≠ blk A3) (u : Value) : Ow (w7.setCell ⟨g, 0, none⟩ u) B2 E2 A4 n4 c4 ys := by
  have h1 := (hy.alloc o).kept hg.1 hne
  refine h1.kept (ho7.set 0 u hp).2.1 ?_
  rcases hA : blk A4 with _ | k
  · exact Or.inl rfl
  · refine Or.inr fun e => ?_
    have e2 : k = g := Option.some.inj e
    have h2 := hy.blk_lt k hA
    rcases hg.2 with h3 | ⟨k2, h3, h4⟩
    · rcases hne with h5 | h5
      · rw [hA] at h5; cases h5
      · exact h5 (by rw [hA, ← h3, e2]; rfl)
    · have e3 : g = k2 := Option.some.inj h4
      simp at h3
      omega
theorem oneAt (w : World) (x : Value) (t : TypeId) {z : Nat} (hz : w.heap.size = z) : Rd (w.alloc (.cells #[x] t)) (z + 1) (some ⟨z, 0, none⟩) 1 [x] := by subst hz; exact Rd.one w x t
theorem after {w2 w6 w7 : World} {B : Nat} {o : Obj} (h : Below B w2 w6) (hb : Below B (w6.alloc o) w7) (hB : B ≤ w6.heap.size) : Below B w2 w7 := (h.alloc hB o).trans hb
set_option maxHeartbeats 4000000 in
theorem walk (A : Option Addr) (n c : Nat) (l : List UInt8) (A0 : Option Addr) (n0 c0 : Nat) (m : List UInt8) (w : World) (ht : Tab w) (h : Rd w w.heap.size A n (bv l)) (_hc : n ≤ c) (hn : n ≤ 9223372036854775807)
    (h0 : Rd w w.heap.size A0 n0 (bv m)) (hc0 : n0 ≤ c0) (hn0 : n0 ≤ 9223372036854775807) :
    Calls Tryd.prog 9 #[.slice A n c, .slice A0 n0 c0] w fun e w' => e = .returned (.bool true) ∧ Below w.heap.size w w' := by
  have hpos := ht.pos
  have HT := Lib.hid ht
  have Hl := Lib.hid h.len
  have Hm := Lib.hid h0.len
  obtain ⟨f, ys, hysl, hsame⟩ := open_same m
  have HYS := Lib.hid hysl
  have HSAME := Lib.hid hsame
  clear ht hysl hsame
  by_cases hbig : 65536 < n
  · go_enter Tryd.func9, Tryd.ntmps9
    go_wp2_with fail
    refine (awake_any _ HT.out).mono ?_
    rintro e w1 ⟨rfl, hb1⟩
    go_wp2
    go_ret
    exact ⟨rfl, hb1⟩
  by_cases hbig0 : 65536 < n0
  · go_enter Tryd.func9, Tryd.ntmps9
    go_wp2_with fail
    refine (awake_any _ HT.out).mono ?_
    rintro e w1 ⟨rfl, hb1⟩
    go_wp2
    go_ret
    exact ⟨rfl, hb1⟩
  go_enter Tryd.func9, Tryd.ntmps9
  go_wp2_with fail
  refine (clone_any A n c _ l _ h (Nat.le_refl _) (by omega)).mono ?_
  rintro e w1 ⟨A1, n1, c1, rfl, ho1, hb1⟩
  have hz1 := hb1.size
  go_wp2_with fail
  refine (clone_any A0 n0 c0 w.heap.size m _ (h0.below hb1 (Nat.le_refl _)) hz1 (by omega)).mono ?_
  rintro e w2 ⟨A2, n2, c2, rfl, ho2, hb2⟩
  have hb2' := hb1.trans (hb2.mono hz1)
  have hz2 := hb2'.size
  have ho12 := ho1.below hb2 (Nat.le_refl _)
  have hn1 : n1 = n := by have h1 := ho1.len; have h2 := Hl.out; rw [bv_len] at h1 h2; omega
  have hn2 : n2 = n0 := by have h1 := ho2.len; have h2 := Hm.out; rw [bv_len] at h1 h2; omega
  have HN1 := Lib.hid hn1
  have HN2 := Lib.hid hn2
  have hn1' : n1 ≤ 65536 := by omega
  have hn2' : n2 ≤ 65536 := by omega
  clear hn1 hn2
  go_wp2_with fail
  refine (seal_any A1 n1 c1 _ l _ ho12.rd ho12.cap.1 (HT.out.below hb2' hpos) (Nat.le_refl _) (by omega)).mono ?_
  rintro e w3 ⟨A3, n3, c3, rfl, ho3, hb3⟩
  have hb3' := hb2'.trans (hb3.mono hz2)
  have hz3 := hb3'.size
  have ho23 := ho2.below hb3 (Nat.le_refl _)
  have ho13 := ho12.below hb3 (Nat.le_refl _)
  go_wp2_with fail
  refine (open_any A2 n2 c2 w3.heap.size m _ ho23.rd ho23.cap.1 (HT.out.below hb3' hpos) (Nat.le_refl _) (by omega)).mono ?_
  intro e w4 hres
  obtain ⟨hb4, A4, n4, c4, rfl, ho4⟩ := HSAME.out _ _ _ hres
  clear hres
  have hb4' := hb3'.trans (hb4.mono hz3)
  have hz4 := hb4'.size
  go_wp2_with fail
  refine (refOpen_any A0 n0 c0 w.heap.size m _ (h0.below hb4' (Nat.le_refl _)) hc0 hz4 (by omega)).mono ?_
  intro e w5 hres
  obtain ⟨hb5, A5, n5, c5, rfl, ho5⟩ := HSAME.out _ _ _ hres
  clear hres
  have hb5' := hb4'.trans (hb5.mono hz4)
  have hz5 := hb5'.size
  go_wp2_with fail
  refine (refSeal_any A n c w.heap.size l _ (h.below hb5' (Nat.le_refl _)) hz5 (by omega)).mono ?_
  rintro e w6 ⟨A6, n6, c6, rfl, ho6, hb6⟩
  have hb6' := hb5'.trans (hb6.mono hz5)
  have hz6 := hb6'.size
  have hs5 := hb5.size
  have hs6 := hb6.size
  have hs4 := hb4.size
  have h46 := hb5.trans (hb6.mono hs5)
  have h36 := hb4.trans (h46.mono hs4)
  have ho36 := ho3.below h36 (Nat.le_refl _)
  go_wp2_with fail
  refine (equal_any A3 A6 n3 c3 n6 c6 w6.heap.size (l ++ le4 (CM.crc l)) (l ++ le4 (CM.crc l)) _ ho36.rd ho6.rd).mono ?_
  rintro e w7 ⟨rfl, rfl⟩
  rw [decide_eq_true rfl]
  have ho46 := ho4.below h46 (Nat.le_refl _)
  go_wp2_with fail
  refine (equal_any A4 A5 n4 c4 n5 c5 w6.heap.size ys ys _ ho46.rd (ho5.below hb6 (Nat.le_refl _)).rd).mono ?_
  rintro e w8 ⟨rfl, rfl⟩
  rw [decide_eq_true rfl]
  have hs3 := hb3.size
  have h26 := hb3.trans (h36.mono hs3)
  have hn3 : n3 ≤ 65540 := by have h1 := ho3.len; rw [bv_len, List.length_append] at h1; simp [le4] at h1; have h2 := Hl.out; rw [bv_len] at h2; omega
  have hn4 : n4 ≤ 65540 := by have h1 := ho4.len; rw [bv_len] at h1; have h2 := Hm.out; rw [bv_len] at h2; have := HYS.out; omega
  have hne : blk A4 = none ∨ blk A4 ≠ blk A3 := by
    rcases hA4 : blk A4 with _ | k4
    · exact Or.inl rfl
    · refine Or.inr fun e => ?_
      have h1 := ho4.blk_lt k4 hA4
      have h2 := ho3.blk_lt k4 e.symm
      omega
  have HNE := Lib.hid hne
  have HH := Lib.hid h26
  clear hne h26 ho13 ho23 ho3 ho4 ho5 ho6
  obtain ⟨S, hS⟩ : ∃ S, S = l ++ le4 (CM.crc l) := ⟨_, rfl⟩
  rw [← hS] at ho36
  have HS := Lib.hid hS
  clear hS
  have hs26 := HH.out.size
  have hs36 := h36.size
  go_wp2_with (first
    | (at_builtin; refine wp_app u8ty rfl (.tmp 52) (.tmp 53) rfl rfl rfl (ho36.alloc _) (Rd.one w6 _ _) (one1 rfl) (by omega) (by omega) (by simp; omega) ?_; intro A7 N7 c7 w7 ho7 hN7 hb7 hg7; rw [show bv S ++ [Value.int .u8 1] = bv (S ++ [1]) from by rw [bv_app]; rfl] at ho7; obtain ⟨g, rfl, hgB, hgl, ⟨b7, hc7⟩, hz7, hp7, _⟩ := ho7.head (by simp); have hy8 := keeps ho7 hp7 ho46 hg7 HNE.out; have hB7 := after HH.out hb7 hs26; have hs7 := hb7.size; simp at hs7; clear hg7 hb7)
    | (at_builtin; refine wp_app u8ty rfl (.tmp 60) (.tmp 61) rfl rfl rfl ((hy8 _).alloc _) (oneAt _ _ _ (z := w7.heap.size) (by simp)) (one1 rfl) (by omega) (by omega) (by simp; omega) ?_; intro A9 N9 c9 w9 ho9 hN9 hb9 hg9; rw [show bv ys ++ [Value.int .u8 1] = bv (ys ++ [1]) from by rw [bv_app]; rfl] at ho9; obtain ⟨g9, rfl, hgB9, hgl9, ⟨b9, hc9⟩, hz9, hp9, _⟩ := ho9.head (by simp); have hB9 := after (hB7.setCell (p := ⟨g, 0, none⟩) hgB _) (hb9.mono hs3) (by have := hB7.size; simp; omega); clear hg9))
  generalize hW : World.setCell w9 _ _ = w10
  have hB10 : Below w2.heap.size w2 w10 := by rw [← hW]; exact hB9.setCell (p := ⟨g9, 0, none⟩) (Nat.le_trans hs3 hgB9) _
  clear hW
  have hb10 := hb2'.trans (hB10.mono hz2)
  have hz10 := hb10.size
  refine (equal_any A1 A n1 c1 n c w10.heap.size l l _ (ho12.below hB10 (Nat.le_refl _)).rd ((h.below hb10 (Nat.le_refl _)).more hz10)).mono ?_
  rintro e w11 ⟨rfl, rfl⟩
  rw [decide_eq_true rfl]
  go_wp2_with fail
  refine (equal_any A2 A0 n2 c2 n0 c0 w10.heap.size m m _ (ho2.below hB10 (Nat.le_refl _)).rd ((h0.below hb10 (Nat.le_refl _)).more hz10)).mono ?_
  rintro e w12 ⟨rfl, rfl⟩
  rw [decide_eq_true rfl]
  go_wp2_with fail
  refine (awake_any _ (HT.out.below hb10 hpos)).mono ?_
  rintro e w13 ⟨rfl, hb13⟩
  go_wp2
  go_ret
  exact ⟨rfl, hb10.trans (hb13.mono hz10)⟩
end Go.Proofs.YtkgfbehlcjjjnaaDoor.sumsSealsDone
namespace Go.Proofs.YtkgfbehlcjjjnaaDoor.sumsSealsDone
open Go.ChangeShapes Go.WideShapes Go.ChangeAt Go.RowKit Mem sum
set_option linter.unusedVariables false
theorem contract (H : Type) (enc : TypeId × Value → H) (W : World) (base : Nat) (args : Array Value) (ds gs : List (DataW H)) (before : List MemPlace)
    (hval : ∀ (j : Nat) t v, Tryd.f9.params[j]? = some t → args[j]? = some v → Value.okWide Tryd.prog W .any base t v)
    (hW : DataW.Whole enc Tryd.prog Tryd.f9.params.toList Rows.sumsSealsSpec.vars false W args.toList ds gs before) (hL : laidMetH Tryd.prog Rows.sumsSealsRow.laid W) :
    Calls Tryd.prog 9 args W fun e W' => ∃ v, e = .returned v ∧ Rows.sumsSealsSpec.post enc Tryd.prog Tryd.f9 false true false false W args v W' := by
  have hW' := hW
  have hT : Tab W := table rfl hL
  obtain ⟨p, q, hA0, hV, rfl, hfz, hnd⟩ := hW
  have hA : DataW.TrodAll enc Tryd.prog W 0 (fun _ => true) true Tryd.f9.params.toList args.toList ds p := hA0
  rw [Tryd.params9] at hA hval
  obtain ⟨v0, vs0, d0, ds0, p0, q0, hargs, rfl, rfl, h0, r0⟩ := trodAll_cons hA
  obtain ⟨v1, vs1, d1, ds1, p1, q1, rfl, rfl, rfl, h1, r1⟩ := trodAll_cons r0
  obtain ⟨rfl, rfl, rfl⟩ := trodAll_nil r1
  obtain rfl : args = #[v0, v1] := by cases args; simp_all
  obtain ⟨rfl, rfl⟩ := trodVars_none hV
  obtain ⟨a0, n0, c0, rfl⟩ := okWide_slice Tryd.underlying31 (hval 0 31 v0 rfl rfl)
  have k0 := h0
  have lt0 : ∀ x ∈ p0, x.block < W.heap.size := by obtain ⟨m, hm⟩ := k0; exact DataW.trod_lt m _ _ _ hm
  obtain ⟨l0, w0, m0, b0⟩ : ∃ l : List UInt8, Rd W W.heap.size a0 n0 (bv l) ∧ n0 ≤ c0 ∧ n0 ≤ 9223372036854775807 := by
    obtain ⟨fuel, hf⟩ := h0
    rcases open_ints Tryd.underlying31 Tryd.underlying5 (by kernel_rfl) hf with ⟨hcs, _⟩ | ⟨x, l, c, zs, hcs, _, hl, hm, hz, _, hcell, hwz⟩
    · simp [Value.cells] at hcs
      obtain ⟨rfl, rfl, rfl⟩ := hcs
      exact ⟨[], Rd.nil _ _ _, Nat.le_refl _, by omega⟩
    · simp [Value.cells] at hcs
      obtain ⟨rfl, rfl, rfl⟩ := hcs
      unfold maxLen at hm
      obtain ⟨l, hl2⟩ := rd_bytes hl (by simpa using hz) hcell hwz
      exact ⟨l, hl2, hl, by omega⟩
  obtain ⟨a1, n1, c1, rfl⟩ := okWide_slice Tryd.underlying31 (hval 1 31 v1 rfl rfl)
  have k1 := h1
  have lt1 : ∀ x ∈ p1, x.block < W.heap.size := by obtain ⟨m, hm⟩ := k1; exact DataW.trod_lt m _ _ _ hm
  obtain ⟨l1, w1, m1, b1⟩ : ∃ l : List UInt8, Rd W W.heap.size a1 n1 (bv l) ∧ n1 ≤ c1 ∧ n1 ≤ 9223372036854775807 := by
    obtain ⟨fuel, hf⟩ := h1
    rcases open_ints Tryd.underlying31 Tryd.underlying5 (by kernel_rfl) hf with ⟨hcs, _⟩ | ⟨x, l, c, zs, hcs, _, hl, hm, hz, _, hcell, hwz⟩
    · simp [Value.cells] at hcs
      obtain ⟨rfl, rfl, rfl⟩ := hcs
      exact ⟨[], Rd.nil _ _ _, Nat.le_refl _, by omega⟩
    · simp [Value.cells] at hcs
      obtain ⟨rfl, rfl, rfl⟩ := hcs
      unfold maxLen at hm
      obtain ⟨l, hl2⟩ := rd_bytes hl (by simpa using hz) hcell hwz
      exact ⟨l, hl2, hl, by omega⟩
  clear hA0 hval
  refine (walk a0 n0 c0 l0 a1 n1 c1 l1 W hT w0 m0 b0 w1 m1 b1).mono fun e W' ⟨he, bel⟩ => ?_
  subst he
  exact ⟨_, rfl, _, _, _, [], _, [], hW', trodAll_mk1 (shut_bool Tryd.underlying4 _), (trodAll_cons_mk (Below.trod laidOut (by kernel_rfl) (of_decide_eq_true (by kernel_rfl)) k0 bel lt0) (trodAll_cons_mk (Below.trod laidOut (by kernel_rfl) (of_decide_eq_true (by kernel_rfl)) k1 bel lt1) trodAll_mk0)), rfl, bel.frame _, fun h => by cases h⟩

theorem laid_met (os : Os) : laidMet Tryd.prog Rows.sumsSealsRow.laid ((laidWorld os).forCall (fun _ _ => 0) ⟨#[], #[.slice none 0 0, .slice none 0 0], []⟩).memory :=
  laidMet_of_run' 8 (by kernel_rfl) (by kernel_rfl)
theorem reads (os : Os) {H : Type} (enc : TypeId × Value → H) : ∃ places, DataW.whole enc Tryd.prog ((laidWorld os).forCall (fun _ _ => 0) ⟨#[], #[.slice none 0 0, .slice none 0 0], []⟩).memory Tryd.f9.params.toList Rows.sumsSealsSpec.vars false (#[.slice none 0 0, .slice none 0 0] : Array Value).toList 8 = some ([.nil, .nil], [], places) :=
  ⟨[], by kernel_rfl⟩
set_option maxRecDepth 100000 in
theorem lifted (os : Os) (started : os.Started) (H : Type) (enc : TypeId × Value → H) (F : Stop.Interp) :
    ReturnsInHanded {} Tryd.checked os 9 .any ((OpenSpec.ofChange Rows.sumsSealsSpec).preRow enc Tryd.prog Tryd.f9 Rows.sumsSealsRow.domain false Rows.sumsSealsRow.laid) (((OpenSpec.ofChange Rows.sumsSealsSpec).at F).post enc Tryd.prog Tryd.f9 false true false false) := by
  obtain ⟨places, hx⟩ := reads os enc
  refine returnsInHanded_of_row (C := Tryd.checked) (s := OpenSpec.ofChange Rows.sumsSealsSpec) own started (by kernel_rfl) Tryd.func9
    (witness_row_at (enc := enc) (C := Tryd.checked) false (laidWorld os) #[.slice none 0 0, .slice none 0 0] rfl (by kernel_rfl) (by kernel_rfl) (by kernel_rfl)
      (OpenSpec.preRow_of_cond 8 hx (by kernel_rfl) (fun k hk => by cases hk) (by kernel_rfl) (laid_met os))) ?_
  intro W base args ds gs before hval hW _ _ _ hL _ _
  exact contract H enc W base args ds gs before hval hW hL
theorem said : Rows.SumsSealsSaid :=
  OpenClaim.holds_of_cond 9 Tryd.f9 rfl rfl rfl rfl rfl rfl rfl ⟨rfl, rfl, rfl, rfl, rfl⟩ rfl rfl rfl rfl rfl (by kernel_rfl) Tryd.func9 (by kernel_rfl)
    (of_decide_eq_true (by kernel_rfl)) (by unfold Func.isWrapper; first | (rw [if_pos (by decide +kernel)]; kernel_rfl) | (rw [if_neg (by decide +kernel)]; exact ⟨rfl, rfl⟩))
    (fun os started H enc _ F => by rw [OpenClaim.pre_eq_preRow]; exact lifted os started H enc F)
theorem plain (f : FuncId) (fn : Func) (hf : Tryd.pinned.checked.prog.funcNamed "flume/flumelaw01.SumsSeals" = some f) (hfn : Tryd.pinned.checked.prog.funcs[f]? = some fn) :
    false = Tryd.pinned.checked.prog.looks [] ∧ ∀ (j : Nat) t, fn.params[j]? = some t → Tryd.pinned.checked.prog.wantsStandIn t = false := by
  obtain rfl : f = 9 := Option.some.inj ((show Tryd.prog.funcNamed "flume/flumelaw01.SumsSeals" = some 9 by kernel_rfl).symm.trans hf) |>.symm
  obtain rfl : fn = Tryd.f9 := (Option.some.inj (Tryd.func9.symm.trans hfn)).symm
  refine ⟨by kernel_rfl, fun j t ht => ?_⟩
  rw [Tryd.params9] at ht
  have hm : t ∈ [31, 31] := by simpa using Array.mem_of_getElem? ht
  have hall : ([31, 31].all fun u => !Tryd.prog.wantsStandIn u) = true := by kernel_rfl
  exact (show Tryd.prog.wantsStandIn t = false by simpa using List.all_eq_true.1 hall t hm)
/-- the given statement -/
theorem proved : Rows.SumsSealsCardSaid :=
  Claim7.holds_tied_plain_at .later [] _ _ _ _ said (fun _ h => by cases h) (by kernel_rfl) (fun _ h => by cases h) sumsSeals_row_tie rfl ⟨rfl, rfl⟩ (by kernel_rfl) rfl plain (by kernel_rfl)
#print axioms proved
end Go.Proofs.YtkgfbehlcjjjnaaDoor.sumsSealsDone
