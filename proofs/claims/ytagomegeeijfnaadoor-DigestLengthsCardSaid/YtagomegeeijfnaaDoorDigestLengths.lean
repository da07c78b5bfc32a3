/- DigestLengths: for every input the law answers true and leaves its arguments as they were; the table that the program lays is tied to its text. -/
import Derived.Test.YtagomegeeijfnaaDoorDgX
import Derived.Test.YtagomegeeijfnaaDoorDgY
import Derived.Test.YtagomegeeijfnaaDoorDgZ
namespace Go.Proofs.YtagomegeeijfnaaDoor.digestLengthsDone
open Go.RowKit Mem DM dg
set_option maxRecDepth 100000
set_option linter.unusedSimpArgs false
theorem xor_one (x : UInt8) : bits BinOp.xor IntKind.u8 (x.toNat : Int) 1 = ((x ^^^ 1).toNat : Int) := by
  have key : ∀ n : Fin 256, bits BinOp.xor IntKind.u8 ((n.val : Nat) : Int) 1 = ((UInt8.ofNat n.val ^^^ 1).toNat : Int) := by decide +kernel
  have := key ⟨x.toNat, x.toNat_lt⟩
  simpa using this
set_option maxHeartbeats 4000000 in
theorem walk (A : Option Addr) (n c : Nat) (l : List UInt8) (at_ x : Int) (w : World) (hT : Tab w) (hr : Rd w w.heap.size A n (bv l)) (_hc : n ≤ c) (_hn : n ≤ 9223372036854775807) (_hat : (Lit.int .i64 at_).wf = true) (_hx : (Lit.int .i64 x).wf = true) :
    Calls Tryd.prog 4 #[.slice A n c, .int .i64 at_, .int .i64 x] w fun e w' => e = .returned (.bool true) ∧ Below w.heap.size w w' := by
  have hl : l.length = n := by rw [← hr.len, bv_len]
  have HT := Lib.hid hT
  clear hT
  by_cases hbig : 8192 < n
  · have hbi : (8192 : Int) < n := by omega
    go_enter Tryd.func4, Tryd.ntmps4
    go_wp2_with (go_at_call 5; refine (awake_any _ HT.out).mono ?_; rintro e w1 ⟨rfl, hb1⟩)
    go_ret
    exact ⟨rfl, hb1⟩
  have hbi : ¬ (8192 : Int) < n := by omega
  by_cases h0 : n = 0
  · subst h0
    go_enter Tryd.func4, Tryd.ntmps4
    go_wp2_with (go_at_call 5; refine (awake_any _ HT.out).mono ?_; rintro e w1 ⟨rfl, hb1⟩)
    go_ret
    exact ⟨rfl, hb1⟩
  have hne : ((n : Int) == 0) = false := beq_eq_false_iff_ne.2 (by omega)
  have hcl := clone_any A n c _ l w hr (Nat.le_refl _) (by omega)
  unfold Made at hcl
  have HCL := Lib.hid hcl
  have HL := Lib.hid hl
  clear hcl hl hr
  obtain ⟨m, hm, hm130⟩ : ∃ m : Nat, wrap64 ((IntKind.u64.wrap at_).tmod 130) = (m : Int) ∧ m < 130 := by
    have h1 : 0 ≤ IntKind.u64.wrap at_ := by rw [IntKind.wrap_u64]; omega
    have h2 : (IntKind.u64.wrap at_).tmod 130 = IntKind.u64.wrap at_ % 130 := Int.tmod_eq_emod_of_nonneg h1
    refine ⟨(IntKind.u64.wrap at_ % 130).toNat, ?_, by omega⟩
    have h3 : 0 ≤ IntKind.u64.wrap at_ % 130 := Int.emod_nonneg _ (by decide)
    have h4 : IntKind.u64.wrap at_ % 130 < 130 := Int.emod_lt_of_pos _ (by decide)
    rw [h2]
    generalize IntKind.u64.wrap at_ % 130 = t at h3 h4 ⊢
    unfold wrap64
    omega
  go_enter Tryd.func4, Tryd.ntmps4
  go_upto_region 4 with (first
    | (go_at_call 6; refine (HCL.out).mono ?_; rintro e w2 ⟨A2, n2, c2, rfl, ho2, hb2⟩; have hn2 : n2 = n := (by have := ho2.len; rw [bv_len] at this; rw [← this]; exact HL.out))
    | (at_builtin; have ho2n := ho2; rw [hn2] at ho2n; have hR := dz.run_app0 (P := Tryd.prog) (w := w2) (TN := 3) (k := .i64) (kn := .i64) u8ty (htn := Tryd.underlying3) (rt := 22) ho2n (by omega) m rfl (by omega) (by unfold maxLen; omega) hb2.size; obtain ⟨A3, N3, c3, w3, hrun, hN3, ho3, hb3⟩ := hR; have HN3 := Lib.hid hN3; clear hN3; refine Lib.wpList_append_run w2 rfl (.tmp 18) (.tmp 22) 22 3 rfl (.slice A2 n c2) (.int .i64 (m : Int)) rfl (congrArg (Value.int .i64) hm) (.slice A3 N3 c3) w3 hrun ?_)
    | fail)
  have hpos3 : 0 < N3 := by have := HN3.out; omega
  have hN3b : N3 ≤ 8322 := by have := HN3.out; omega
  obtain ⟨gb, hA3, hgb1, hgb2⟩ := ho3.at0 hpos3
  subst hA3
  obtain ⟨l2, hl2⟩ : ∃ l2 : List UInt8, l2 = l ++ List.replicate m 0 := ⟨_, rfl⟩
  have hbv : bv l ++ List.replicate m (Value.int .u8 0) = bv l2 := by rw [hl2]; simp [bv]
  rw [hbv] at ho3
  have hl2n : l2.length = N3 := by have := ho3.len; rw [bv_len] at this; exact this
  have hNw : IntKind.u64.wrap (N3 : Int) = (N3 : Int) := by rw [IntKind.wrap_u64]; omega
  have hN0 : ¬ ((N3 : Int) = 0) := by omega
  have hN0b : ((N3 : Int) == 0) = false := beq_eq_false_iff_ne.2 hN0
  obtain ⟨j, hj, hjN⟩ : ∃ j : Nat, wrap64 ((IntKind.u64.wrap x).tmod (N3 : Int)) = (j : Int) ∧ j < N3 := by
    have h1 : 0 ≤ IntKind.u64.wrap x := by rw [IntKind.wrap_u64]; omega
    have h2 : (IntKind.u64.wrap x).tmod (N3 : Int) = IntKind.u64.wrap x % (N3 : Int) := Int.tmod_eq_emod_of_nonneg h1
    have h3 : 0 ≤ IntKind.u64.wrap x % (N3 : Int) := Int.emod_nonneg _ hN0
    have h4 : IntKind.u64.wrap x % (N3 : Int) < (N3 : Int) := Int.emod_lt_of_pos _ (by omega)
    refine ⟨(IntKind.u64.wrap x % (N3 : Int)).toNat, ?_, by omega⟩
    rw [h2]
    generalize IntKind.u64.wrap x % (N3 : Int) = t at h3 h4 ⊢
    unfold wrap64
    omega
  have hji : (j : Int) < (N3 : Int) := by omega
  obtain ⟨z, hz⟩ : ∃ z, l2[j]'(by omega) = z := ⟨_, rfl⟩
  have hset := fun u => ho3.set j u hjN
  have ck : w3.cell? ⟨gb, j, none⟩ = some (.int .u8 (z.toNat : Int)) := (hset (.int .u8 0)).2.2.1.trans (by rw [← hz]; unfold bv; rw [List.getElem?_map, List.getElem?_eq_getElem (by omega : j < l2.length)]; rfl)
  have zk := (hset (.int .u8 0)).2.2.2
  have hxor := xor_one z
  obtain ⟨q, hq⟩ : ∃ q : UInt8, z ^^^ 1 = q := ⟨_, rfl⟩
  rw [hq] at hxor
  have ho4 := (hset (.int .u8 (q.toNat : Int))).1
  have hbs : (bv l2).set j (.int .u8 (q.toNat : Int)) = bv (l2.set j q) := by unfold bv; rw [List.map_set]
  rw [hbs] at ho4
  have hb03 : Below w.heap.size w w3 := hb2.trans hb3
  have hb04 : Below w.heap.size w (w3.setCell ⟨gb, j, none⟩ (.int .u8 (q.toNat : Int))) := (Keep1.set w3 gb j _).below hb03 hb03.size hgb1
  have HB04 := Lib.hid hb04
  have HO4 := Lib.hid ho4
  clear hset hbv hl2 hz hrun ho3 hb3 hbs hb04 ho4
  go_upto_region 5 with fail
  obtain ⟨l3, hl3⟩ : ∃ l3, l2.set j q = l3 := ⟨_, rfl⟩
  have hl3n : l3.length = N3 := by rw [← hl3, List.length_set]; exact hl2n
  rw [hl3] at HO4
  obtain ⟨w4, hw4⟩ : ∃ y, w3.setCell ⟨gb, j, none⟩ (.int .u8 (q.toNat : Int)) = y := ⟨_, rfl⟩
  rw [hw4] at HO4 HB04 ⊢
  have hse := fun y => sum_eql (digest l3) (digest l3) (digest_len l3) (digest_len l3) y
  rw [decide_eq_true rfl] at hse
  have hp := Parts.one HO4.out.rd HO4.out.cap.1 (Nat.le_refl _) 22
  have hX : Below w4.heap.size w4 (w4.alloc (.cells #[.slice (some ⟨gb, 0, none⟩) N3 c3] 22)) := (Below.refl _ _).alloc (Nat.le_refl _) _
  have hof := of_any _ 1 1 _ _ _ (HT.out.below (HB04.out.trans (hX.mono HB04.out.size))) hp (by simp) (by omega) (by rw [tot_flat]; simp; omega)
  rw [show [l3].flatten = l3 by simp] at hof
  have hro := fun (y : World) (hy : Below w4.heap.size w4 y) => refOf_any (some ⟨gb, 0, none⟩) N3 c3 w4.heap.size l3 y (HO4.out.rd.below hy (Nat.le_refl _)) hy.size (by omega)
  obtain ⟨V, hV⟩ : ∃ V, (bv (digest l3)).toArray = V := ⟨_, rfl⟩
  rw [hV] at hof
  simp only [hV] at hse hro
  have HOF := Lib.hid hof
  have HRO := Lib.hid hro
  have HX := Lib.hid hX
  clear hof hro hX hp hV hl3 hw4 hl2n ck zk hxor
  go_wp2_with (first
    | (go_at_call 7; refine (HOF.out).mono ?_; rintro e w5 ⟨rfl, hb5⟩; have hb45 : Below w4.heap.size w4 w5 := HX.out.trans (hb5.mono HX.out.size))
    | (go_at_call 8; refine (HRO.out w5 hb45).mono ?_; rintro e w6 ⟨rfl, hb6⟩; have hb06 : Below w.heap.size w w6 := HB04.out.trans ((hb45.trans (hb6.mono hb45.size)).mono HB04.out.size))
    | (go_at_call 5; refine (awake_any _ (HT.out.below hb06)).mono ?_; rintro e w7 ⟨rfl, hb7⟩)
    | fail)
  go_ret
  exact ⟨rfl, hb06.trans (hb7.mono hb06.size)⟩
end Go.Proofs.YtagomegeeijfnaaDoor.digestLengthsDone
namespace Go.Proofs.YtagomegeeijfnaaDoor.digestLengthsDone
open Go.ChangeShapes Go.WideShapes Go.ChangeAt Go.RowKit Mem DM dg
set_option linter.unusedVariables false
theorem contract (H : Type) (enc : TypeId × Value → H) (W : World) (base : Nat) (args : Array Value) (ds gs : List (DataW H)) (before : List MemPlace)
    (hval : ∀ (j : Nat) t v, Tryd.f4.params[j]? = some t → args[j]? = some v → Value.okWide Tryd.prog W .any base t v)
    (hW : DataW.Whole enc Tryd.prog Tryd.f4.params.toList Rows.digestLengthsSpec.vars false W args.toList ds gs before) (hL : laidMetH Tryd.prog Rows.digestLengthsRow.laid W) :
    Calls Tryd.prog 4 args W fun e W' => ∃ v, e = .returned v ∧ Rows.digestLengthsSpec.post enc Tryd.prog Tryd.f4 false true false false W args v W' := by
  have hW' := hW
  have hT : Tab W := table rfl hL
  obtain ⟨p, q, hA0, hV, rfl, hfz, hnd⟩ := hW
  have hA : DataW.TrodAll enc Tryd.prog W 0 (fun _ => true) true Tryd.f4.params.toList args.toList ds p := hA0
  rw [Tryd.params4] at hA hval
  obtain ⟨v0, vs0, d0, ds0, p0, q0, hargs, rfl, rfl, h0, r0⟩ := trodAll_cons hA
  obtain ⟨v1, vs1, d1, ds1, p1, q1, rfl, rfl, rfl, h1, r1⟩ := trodAll_cons r0
  obtain ⟨v2, vs2, d2, ds2, p2, q2, rfl, rfl, rfl, h2, r2⟩ := trodAll_cons r1
  obtain ⟨rfl, rfl, rfl⟩ := trodAll_nil r2
  obtain rfl : args = #[v0, v1, v2] := by cases args; simp_all
  obtain ⟨rfl, rfl⟩ := trodVars_none hV
  obtain ⟨a0, n0, c0, rfl⟩ := okWide_slice Tryd.underlying22 (hval 0 22 v0 rfl rfl)
  have k0 := h0
  have lt0 : ∀ x ∈ p0, x.block < W.heap.size := by obtain ⟨m, hm⟩ := k0; exact DataW.trod_lt m _ _ _ hm
  obtain ⟨l0, w0, m0, b0⟩ : ∃ l : List UInt8, Rd W W.heap.size a0 n0 (bv l) ∧ n0 ≤ c0 ∧ n0 ≤ 9223372036854775807 := by
    obtain ⟨fuel, hf⟩ := h0
    rcases open_ints Tryd.underlying22 Tryd.underlying5 (by kernel_rfl) hf with ⟨hcs, _⟩ | ⟨x, l, c, zs, hcs, _, hl, hm, hz, _, hcell, hwz⟩
    · simp [Value.cells] at hcs
      obtain ⟨rfl, rfl, rfl⟩ := hcs
      exact ⟨[], Rd.nil _ _ _, Nat.le_refl _, by omega⟩
    · simp [Value.cells] at hcs
      obtain ⟨rfl, rfl, rfl⟩ := hcs
      unfold maxLen at hm
      obtain ⟨l, hl2⟩ := rd_bytes hl (by simpa using hz) hcell hwz
      exact ⟨l, hl2, hl, by omega⟩
  obtain ⟨a1, rfl, rfl, rfl, w1⟩ := open_int Tryd.underlying3 (hval 1 3 v1 rfl rfl) h1
  obtain ⟨a2, rfl, rfl, rfl, w2⟩ := open_int Tryd.underlying3 (hval 2 3 v2 rfl rfl) h2
  clear hA0 hval
  refine (walk a0 n0 c0 l0 a1 a2 W hT w0 m0 b0 w1 w2).mono fun e W' ⟨he, bel⟩ => ?_
  subst he
  exact ⟨_, rfl, _, _, _, [], _, [], hW', trodAll_mk1 (shut_bool Tryd.underlying4 _), (trodAll_cons_mk (Below.trod laidOut (by kernel_rfl) (of_decide_eq_true (by kernel_rfl)) k0 bel lt0) (trodAll_cons_mk (shut_int Tryd.underlying3 w1) (trodAll_cons_mk (shut_int Tryd.underlying3 w2) trodAll_mk0))), rfl, bel.frame _, fun h => by cases h⟩

theorem laid_met (os : Os) : laidMet Tryd.prog Rows.digestLengthsRow.laid ((laidWorld os).forCall (fun _ _ => 0) ⟨#[], #[.slice none 0 0, .int .i64 0, .int .i64 0], []⟩).memory :=
  laidMet_of_run' 8 (by kernel_rfl) (by kernel_rfl)
theorem reads (os : Os) {H : Type} (enc : TypeId × Value → H) : ∃ places, DataW.whole enc Tryd.prog ((laidWorld os).forCall (fun _ _ => 0) ⟨#[], #[.slice none 0 0, .int .i64 0, .int .i64 0], []⟩).memory Tryd.f4.params.toList Rows.digestLengthsSpec.vars false (#[.slice none 0 0, .int .i64 0, .int .i64 0] : Array Value).toList 8 = some ([.nil, .lit (.int .i64 0), .lit (.int .i64 0)], [], places) :=
  ⟨[], by kernel_rfl⟩
set_option maxRecDepth 100000 in
theorem lifted (os : Os) (started : os.Started) (H : Type) (enc : TypeId × Value → H) (F : Stop.Interp) :
    ReturnsInHanded {} Tryd.checked os 4 .any ((OpenSpec.ofChange Rows.digestLengthsSpec).preRow enc Tryd.prog Tryd.f4 Rows.digestLengthsRow.domain false Rows.digestLengthsRow.laid) (((OpenSpec.ofChange Rows.digestLengthsSpec).at F).post enc Tryd.prog Tryd.f4 false true false false) := by
  obtain ⟨places, hx⟩ := reads os enc
  refine returnsInHanded_of_row (C := Tryd.checked) (s := OpenSpec.ofChange Rows.digestLengthsSpec) own started (by kernel_rfl) Tryd.func4
    (witness_row_at (enc := enc) (C := Tryd.checked) false (laidWorld os) #[.slice none 0 0, .int .i64 0, .int .i64 0] rfl (by kernel_rfl) (by kernel_rfl) (by kernel_rfl)
      (OpenSpec.preRow_of_cond 8 hx (by kernel_rfl) (fun k hk => by cases hk) (by kernel_rfl) (laid_met os))) ?_
  intro W base args ds gs before hval hW _ _ _ hL _ _
  exact contract H enc W base args ds gs before hval hW hL
theorem said : Rows.DigestLengthsSaid :=
  OpenClaim.holds_of_cond 4 Tryd.f4 rfl rfl rfl rfl rfl rfl rfl ⟨rfl, rfl, rfl, rfl, rfl⟩ rfl rfl rfl rfl rfl (by kernel_rfl) Tryd.func4 (by kernel_rfl)
    (of_decide_eq_true (by kernel_rfl)) (by unfold Func.isWrapper; first | (rw [if_pos (by decide +kernel)]; kernel_rfl) | (rw [if_neg (by decide +kernel)]; exact ⟨rfl, rfl⟩))
    (fun os started H enc _ F => by rw [OpenClaim.pre_eq_preRow]; exact lifted os started H enc F)
theorem plain (f : FuncId) (fn : Func) (hf : Tryd.pinned.checked.prog.funcNamed "flume/flumelaw08.DigestLengths" = some f) (hfn : Tryd.pinned.checked.prog.funcs[f]? = some fn) :
    false = Tryd.pinned.checked.prog.looks [] ∧ ∀ (j : Nat) t, fn.params[j]? = some t → Tryd.pinned.checked.prog.wantsStandIn t = false := by
  obtain rfl : f = 4 := Option.some.inj ((show Tryd.prog.funcNamed "flume/flumelaw08.DigestLengths" = some 4 by kernel_rfl).symm.trans hf) |>.symm
  obtain rfl : fn = Tryd.f4 := (Option.some.inj (Tryd.func4.symm.trans hfn)).symm
  refine ⟨by kernel_rfl, fun j t ht => ?_⟩
  rw [Tryd.params4] at ht
  have hm : t ∈ [22, 3, 3] := by simpa using Array.mem_of_getElem? ht
  have hall : ([22, 3, 3].all fun u => !Tryd.prog.wantsStandIn u) = true := by kernel_rfl
  exact (show Tryd.prog.wantsStandIn t = false by simpa using List.all_eq_true.1 hall t hm)
/-- the given statement -/
theorem proved : Rows.DigestLengthsCardSaid :=
  Claim7.holds_tied_plain_at .later [] _ _ _ _ said (fun _ h => by cases h) (by kernel_rfl) (fun _ h => by cases h) digestLengths_row_tie rfl ⟨rfl, rfl⟩ (by kernel_rfl) rfl plain (by kernel_rfl)
#print axioms proved
end Go.Proofs.YtagomegeeijfnaaDoor.digestLengthsDone
