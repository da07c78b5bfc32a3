/- DigestNobody: for every input the law answers true and leaves its arguments as they were; the table that the program lays is tied to its text. -/
import Derived.Test.YthfkldcfidehdaaDoorDgK
namespace Go.Proofs.YthfkldcfidehdaaDoor.digestNobodyDone
open Go.RowKit Mem DM dg
theorem zero_sum (w : World) : (zeroValue 26).run Tryd.prog w = .ok (.agg z32.toArray) w := by kernel_rfl
set_option maxRecDepth 100000 in
set_option maxHeartbeats 2000000 in
theorem walk (A : Option Addr) (n c : Nat) (l : List UInt8) (w : World) (hT : Tab w) (_ : Rd w w.heap.size A n (bv l)) (_ : n ≤ c) (hn : n ≤ 9223372036854775807) :
    Calls Tryd.prog 7 #[.slice A n c] w fun e w' => e = .returned (.bool true) ∧ Below w.heap.size w w' := by
  have HT := Lib.hid hT
  clear hT
  by_cases hbig : 8192 < n
  · go_enter Tryd.func7, Tryd.ntmps7
    go_wp2_with (go_at_call 9; refine (awake_any _ HT.out).mono ?_; rintro e w1 ⟨rfl, hb1⟩)
    go_ret
    exact ⟨rfl, hb1⟩
  · have hz0 : ∀ (Z : Array Value), Z = zh.toArray → (w.alloc (.cells Z 46)).cell? ⟨w.heap.size, 0, none⟩ = some (.bool false) := fun Z hZ => by
      subst hZ
      exact range_new w zh 46 0 _ rfl
    have hzz := hz0 _ rfl
    obtain ⟨ZA, hZA⟩ : ∃ z, zh.toArray = z := ⟨_, rfl⟩
    have hbz := zero_hash
    rw [hZA] at hzz hbz
    have hneq : ∀ w : World, (binOp .neq 26 (.agg z32.toArray) (.agg z32.toArray)).run Tryd.prog w = .ok (.bool false) w := fun w => by
      have := sum_neq (List.replicate 32 0) (List.replicate 32 0) (by simp) (by simp) w
      rw [decide_eq_true rfl] at this
      exact this
    have hbs := zero_sum
    obtain ⟨Z3, hZ3⟩ : ∃ z, z32.toArray = z := ⟨_, rfl⟩
    have hsn := sum_no
    rw [hZ3] at hneq hbs hsn
    have HSN := Lib.hid hsn
    obtain ⟨W, hW⟩ : ∃ W, W = (w.alloc (.cells ZA 46)).alloc (.cells #[.pointer none, .pointer (some ⟨w.heap.size, 0, none⟩)] 34) := ⟨_, rfl⟩
    have hWB : Below w.heap.size w W := by rw [hW]; exact ((Below.refl _ _).alloc (Nat.le_refl _) _).alloc (by simp) _
    have f0 : W.cell? ⟨w.heap.size + 1, 0, none⟩ = some (.pointer none) := by rw [hW]; go_simp
    have f1 : W.cell? ⟨w.heap.size + 1, 1, none⟩ = some (.pointer (some ⟨w.heap.size, 0, none⟩)) := by rw [hW]; go_simp
    have fz : W.cell? ⟨w.heap.size, 0, none⟩ = some (.bool false) := by
      rw [hW, World.cell?_alloc_past _ _ _ (by simp)]
      exact hzz
    have hWs : w.heap.size + 1 < W.heap.size := by rw [hW]; simp
    have HW := Lib.hid hW
    clear hsn hz0 hzz hZA hZ3 hW
    go_enter Tryd.func7, Tryd.ntmps7
    go_wp2
    rw [← HW.out]
    go_loopw [4, 13, 14, 15, 16, 17, 18, 19, 20, 21, 22, 23, 24] (fun _ i _ _ _ _ _ _ _ _ _ _ _ wr => ∃ k : Nat, i = .int .i64 k ∧ k ≤ 2 ∧ Below W.heap.size W wr) (fun _ i _ _ _ _ _ _ _ _ _ _ _ _ => 2 - (intOf i).toNat)
    case atStart => exact ⟨0, rfl, by omega, Below.refl _ _⟩
    case round =>
      obtain ⟨k, rfl, hk, hb⟩ := hrel
      by_cases hlt : k < 2
      · obtain ⟨v, hv, hnt⟩ : ∃ v, wr.cell? ⟨w.heap.size + 1, k, none⟩ = some v ∧ NoHash wr v := by
          rcases Nat.eq_zero_or_pos k with e | e
          · subst e; exact ⟨_, (hb.cell (p := ⟨w.heap.size + 1, 0, none⟩) hWs).trans f0, Or.inl rfl⟩
          · obtain rfl : k = 1 := by omega
            exact ⟨_, (hb.cell (p := ⟨w.heap.size + 1, 1, none⟩) hWs).trans f1, Or.inr ⟨_, rfl, (hb.cell (p := ⟨w.heap.size, 0, none⟩) (Nat.lt_of_succ_lt hWs)).trans fz⟩⟩
        have H1 := Lib.hid (write_no v A n c wr hnt)
        have H2 := Lib.hid (HSN.out v wr hnt)
        have HB := Lib.hid hb
        have hk1 : (k : Int) < 2 := by omega
        clear hnt f0 f1 fz hb
        go_wp2_with (first
          | (go_at_call 17; refine H1.out.mono ?_; rintro e w' ⟨rfl, rfl⟩)
          | (go_at_call 18; refine H2.out.mono ?_; rintro e w2 ⟨rfl, hb2⟩)
          | fail)
        exact ⟨⟨k + 1, by go_num, by omega, HB.out.trans (hb2.mono HB.out.size)⟩, by simp [intOf]; omega⟩
      · have hbw : Below w.heap.size w wr := hWB.trans (hb.mono hWB.size)
        have hTr := HT.out.below hbw
        have HTR := Lib.hid hTr
        have HB := Lib.hid hbw
        clear f0 f1 fz hb hbw hTr
        go_wp2_with (go_at_call 9; refine (awake_any _ HTR.out).mono ?_; rintro e w9 ⟨rfl, hb9⟩)
        go_ret
        exact ⟨rfl, HB.out.trans (hb9.mono HB.out.size)⟩
end Go.Proofs.YthfkldcfidehdaaDoor.digestNobodyDone
namespace Go.Proofs.YthfkldcfidehdaaDoor.digestNobodyDone
open Go.ChangeShapes Go.WideShapes Go.ChangeAt Go.RowKit Mem DM dg
set_option linter.unusedVariables false
theorem contract (H : Type) (enc : TypeId × Value → H) (W : World) (base : Nat) (args : Array Value) (ds gs : List (DataW H)) (before : List MemPlace)
    (hval : ∀ (j : Nat) t v, Tryd.f7.params[j]? = some t → args[j]? = some v → Value.okWide Tryd.prog W .any base t v)
    (hW : DataW.Whole enc Tryd.prog Tryd.f7.params.toList Rows.digestNobodySpec.vars false W args.toList ds gs before) (hL : laidMetH Tryd.prog Rows.digestNobodyRow.laid W) :
    Calls Tryd.prog 7 args W fun e W' => ∃ v, e = .returned v ∧ Rows.digestNobodySpec.post enc Tryd.prog Tryd.f7 false true false false W args v W' := by
  have hW' := hW
  have hT : Tab W := table rfl hL
  obtain ⟨p, q, hA0, hV, rfl, hfz, hnd⟩ := hW
  have hA : DataW.TrodAll enc Tryd.prog W 0 (fun _ => true) true Tryd.f7.params.toList args.toList ds p := hA0
  rw [Tryd.params7] at hA hval
  obtain ⟨v0, vs0, d0, ds0, p0, q0, hargs, rfl, rfl, h0, r0⟩ := trodAll_cons hA
  obtain ⟨rfl, rfl, rfl⟩ := trodAll_nil r0
  obtain rfl : args = #[v0] := by cases args; simp_all
  obtain ⟨rfl, rfl⟩ := trodVars_none hV
  obtain ⟨a0, n0, c0, rfl⟩ := okWide_slice Tryd.underlying22 (hval 0 22 v0 rfl rfl)
  have k0 := h0
  have lt0 : ∀ x ∈ p0, x.block < W.heap.size := by obtain ⟨m, hm⟩ := k0; exact DataW.trod_lt m _ _ _ hm
  obtain ⟨l0, w0, m0, b0⟩ : ∃ l : List UInt8, Rd W W.heap.size a0 n0 (bv l) ∧ n0 ≤ c0 ∧ n0 ≤ 9223372036854775807 := by
    obtain ⟨fuel, hf⟩ := h0
    rcases open_ints Tryd.underlying22 Tryd.underlying5 (by kernel_rfl) hf with ⟨hcs, _⟩ | ⟨x, l, c, zs, hcs, _, hl, hm, hz, _, hcell, hwz⟩
    · simp [Value.cells] at hcs
      obtain ⟨rfl, rfl, rfl⟩ := hcs
      exact ⟨[], Rd.nil _ _ _, Nat.le_refl _, by omega⟩
    · simp [Value.cells] at hcs
      obtain ⟨rfl, rfl, rfl⟩ := hcs
      unfold maxLen at hm
      obtain ⟨l, hl2⟩ := rd_bytes hl (by simpa using hz) hcell hwz
      exact ⟨l, hl2, hl, by omega⟩
  clear hA0 hval
  refine (walk a0 n0 c0 l0 W hT w0 m0 b0).mono fun e W' ⟨he, bel⟩ => ?_
  subst he
  exact ⟨_, rfl, _, _, _, [], _, [], hW', trodAll_mk1 (shut_bool Tryd.underlying4 _), (trodAll_cons_mk (Below.trod laidOut (by kernel_rfl) (of_decide_eq_true (by kernel_rfl)) k0 bel lt0) trodAll_mk0), rfl, bel.frame _, fun h => by cases h⟩

theorem laid_met (os : Os) : laidMet Tryd.prog Rows.digestNobodyRow.laid ((laidWorld os).forCall (fun _ _ => 0) ⟨#[], #[.slice none 0 0], []⟩).memory :=
  laidMet_of_run' 8 (by kernel_rfl) (by kernel_rfl)
theorem reads (os : Os) {H : Type} (enc : TypeId × Value → H) : ∃ places, DataW.whole enc Tryd.prog ((laidWorld os).forCall (fun _ _ => 0) ⟨#[], #[.slice none 0 0], []⟩).memory Tryd.f7.params.toList Rows.digestNobodySpec.vars false (#[.slice none 0 0] : Array Value).toList 8 = some ([.nil], [], places) :=
  ⟨[], by kernel_rfl⟩
set_option maxRecDepth 100000 in
theorem lifted (os : Os) (started : os.Started) (H : Type) (enc : TypeId × Value → H) (F : Stop.Interp) :
    ReturnsInHanded {} Tryd.checked os 7 .any ((OpenSpec.ofChange Rows.digestNobodySpec).preRow enc Tryd.prog Tryd.f7 Rows.digestNobodyRow.domain false Rows.digestNobodyRow.laid) (((OpenSpec.ofChange Rows.digestNobodySpec).at F).post enc Tryd.prog Tryd.f7 false true false false) := by
  obtain ⟨places, hx⟩ := reads os enc
  refine returnsInHanded_of_row (C := Tryd.checked) (s := OpenSpec.ofChange Rows.digestNobodySpec) own started (by kernel_rfl) Tryd.func7
    (witness_row_at (enc := enc) (C := Tryd.checked) false (laidWorld os) #[.slice none 0 0] rfl (by kernel_rfl) (by kernel_rfl) (by kernel_rfl)
      (OpenSpec.preRow_of_cond 8 hx (by kernel_rfl) (fun k hk => by cases hk) (by kernel_rfl) (laid_met os))) ?_
  intro W base args ds gs before hval hW _ _ _ hL _ _
  exact contract H enc W base args ds gs before hval hW hL
theorem said : Rows.DigestNobodySaid :=
  OpenClaim.holds_of_cond 7 Tryd.f7 rfl rfl rfl rfl rfl rfl rfl ⟨rfl, rfl, rfl, rfl, rfl⟩ rfl rfl rfl rfl rfl (by kernel_rfl) Tryd.func7 (by kernel_rfl)
    (of_decide_eq_true (by kernel_rfl)) (by unfold Func.isWrapper; first | (rw [if_pos (by decide +kernel)]; kernel_rfl) | (rw [if_neg (by decide +kernel)]; exact ⟨rfl, rfl⟩))
    (fun os started H enc _ F => by rw [OpenClaim.pre_eq_preRow]; exact lifted os started H enc F)
theorem plain (f : FuncId) (fn : Func) (hf : Tryd.pinned.checked.prog.funcNamed "flume/flumelaw08.DigestNobody" = some f) (hfn : Tryd.pinned.checked.prog.funcs[f]? = some fn) :
    false = Tryd.pinned.checked.prog.looks [] ∧ ∀ (j : Nat) t, fn.params[j]? = some t → Tryd.pinned.checked.prog.wantsStandIn t = false := by
  obtain rfl : f = 7 := Option.some.inj ((show Tryd.prog.funcNamed "flume/flumelaw08.DigestNobody" = some 7 by kernel_rfl).symm.trans hf) |>.symm
  obtain rfl : fn = Tryd.f7 := (Option.some.inj (Tryd.func7.symm.trans hfn)).symm
  refine ⟨by kernel_rfl, fun j t ht => ?_⟩
  rw [Tryd.params7] at ht
  have hm : t ∈ [22] := by simpa using Array.mem_of_getElem? ht
  have hall : ([22].all fun u => !Tryd.prog.wantsStandIn u) = true := by kernel_rfl
  exact (show Tryd.prog.wantsStandIn t = false by simpa using List.all_eq_true.1 hall t hm)
/-- the given statement -/
theorem proved : Rows.DigestNobodyCardSaid :=
  Claim7.holds_tied_plain_at .later [] _ _ _ _ said (fun _ h => by cases h) (by kernel_rfl) (fun _ h => by cases h) digestNobody_row_tie rfl ⟨rfl, rfl⟩ (by kernel_rfl) rfl plain (by kernel_rfl)
#print axioms proved
end Go.Proofs.YthfkldcfidehdaaDoor.digestNobodyDone
