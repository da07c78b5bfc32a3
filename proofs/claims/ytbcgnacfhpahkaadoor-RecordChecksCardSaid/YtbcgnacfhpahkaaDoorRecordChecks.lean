/- RecordChecks: for every input the law answers true and leaves its arguments as they were; the table that the program lays is tied to its text. -/
import Derived.Test.YtbcgnacfhpahkaaDoorRcZ
namespace Go.Proofs.YtbcgnacfhpahkaaDoor.recordChecksDone
open Go.RowKit Mem OM LM DM dg rc
set_option maxRecDepth 20000
set_option linter.unusedSimpArgs false
attribute [local go_sem] Oper.semAt_some
set_option maxHeartbeats 8000000 in
theorem walk (K1 S1 : Int) (d1 l1 : List UInt8) (A1 : Option Addr) (n1 c1 : Nat) (N F P D I K S : Int) (d l : List UInt8) (A : Option Addr) (n c : Nat) (w : World) (hT : Tab w)
    (hd1 : d1.length = 32) (_hr1 : Rd w w.heap.size A1 n1 (bv l1)) (_hc1 : n1 ≤ c1) (hn1 : n1 ≤ 9223372036854775807) (_hK1 : -9223372036854775808 ≤ K1 ∧ K1 ≤ 9223372036854775807) (_hS1 : -9223372036854775808 ≤ S1 ∧ S1 ≤ 9223372036854775807)
    (hd : d.length = 32) (_hr : Rd w w.heap.size A n (bv l)) (_hc : n ≤ c) (hn : n ≤ 9223372036854775807) (_hK0 : -9223372036854775808 ≤ K ∧ K ≤ 9223372036854775807) (_hS : -9223372036854775808 ≤ S ∧ S ≤ 9223372036854775807)
    (_hN : -9223372036854775808 ≤ N ∧ N ≤ 9223372036854775807) (_hF : -9223372036854775808 ≤ F ∧ F ≤ 9223372036854775807) (_hP : -9223372036854775808 ≤ P ∧ P ≤ 9223372036854775807) (_hD : -9223372036854775808 ≤ D ∧ D ≤ 9223372036854775807) (_hI : -9223372036854775808 ≤ I ∧ I ≤ 9223372036854775807) :
    Calls Tryd.prog 3 #[.agg (recL K1 S1 d1 A1 n1 c1).toArray, .agg (noteL N F P D I K S d A n c).toArray] w fun e w' => e = .returned (.bool true) ∧ Below w.heap.size w w' := by
  have hck := fun y => check_any K1 S1 d1 hd1 A1 n1 c1 y
  have hrck := fun y => refCheck_any K1 S1 d1 hd1 A1 n1 c1 y
  unfold refCheckPost at hrck
  have hft := fun y => fits_any N F P D I K S d hd A n c y
  have hrft := fun y => refFits_any N F P D I K S d hd A n c y
  obtain ⟨e1, he1⟩ : ∃ z, ((chk K1 S1 n1 : Nat) : Int) = z := ⟨_, rfl⟩
  obtain ⟨e2, he2⟩ : ∃ z, ((fitE N F P D I K S d n : Nat) : Int) = z := ⟨_, rfl⟩
  simp only [he1] at hck hrck
  simp only [he2] at hft hrft
  have hrgR := dg.range_new w (recL K1 S1 d1 A1 n1 c1) 26
  have hbR : Below w.heap.size w (w.alloc (.cells (recL K1 S1 d1 A1 n1 c1).toArray 26)) := (Below.refl _ _).alloc (Nat.le_refl _) _
  have hszR : (w.alloc (.cells (recL K1 S1 d1 A1 n1 c1).toArray 26)).heap.size = w.heap.size + 1 := by simp
  have hinfR : (Tryd.prog.info? 26).map (·.size) = some (recL K1 S1 d1 A1 n1 c1).length := by rw [recL_len hd1]; exact info_rec
  have c34 := hrgR 34 _ (recL_34 hd1)
  have hinfN : (Tryd.prog.info? 28).map (·.size) = some (noteL N F P D I K S d A n c).length := by rw [noteL_len hd]; kernel_rfl
  obtain ⟨RL, hRL⟩ : ∃ z, recL K1 S1 d1 A1 n1 c1 = z := ⟨_, rfl⟩
  rw [hRL] at hrgR hbR hszR hinfR c34 ⊢
  simp only [hRL] at hck hrck
  obtain ⟨RA, hRA⟩ : ∃ z, RL.toArray = z := ⟨_, rfl⟩
  rw [hRA] at hrgR hbR hszR c34 ⊢
  obtain ⟨W0, hW0⟩ : ∃ z, w.alloc (.cells RA 26) = z := ⟨_, rfl⟩
  rw [hW0] at hrgR hbR hszR c34
  have hrgN := dg.range_new W0 (noteL N F P D I K S d A n c) 28
  have hbN : Below W0.heap.size W0 (W0.alloc (.cells (noteL N F P D I K S d A n c).toArray 28)) := (Below.refl _ _).alloc (Nat.le_refl _) _
  have hltN : W0.heap.size < (W0.alloc (.cells (noteL N F P D I K S d A n c).toArray 28)).heap.size := by simp
  have hr5 := note_rec hrgN
  have c39 := hr5 34 _ (recL_34 hd)
  rw [show 5 + 34 = 39 from rfl] at c39
  obtain ⟨NL, hNL⟩ : ∃ z, noteL N F P D I K S d A n c = z := ⟨_, rfl⟩
  rw [hNL] at hrgN hbN hltN hinfN c39 ⊢
  simp only [hNL] at hft hrft
  obtain ⟨NA, hNA⟩ : ∃ z, NL.toArray = z := ⟨_, rfl⟩
  rw [hNA] at hrgN hbN hltN c39 ⊢
  obtain ⟨X, hX⟩ : ∃ z, W0.alloc (.cells NA 28) = z := ⟨_, rfl⟩
  rw [hX] at hrgN hbN hltN c39
  have hg1 : w.heap.size < W0.heap.size := by rw [hszR]; exact Nat.lt_succ_self _
  have hrgX := dg.range_below hrgR hbN hg1
  have c34X := (hbN.cell (p := ⟨w.heap.size, 0 + 34, none⟩) hg1).trans c34
  rw [Nat.zero_add] at c34X
  have hbX : Below w.heap.size w X := hbR.trans (hbN.mono (Nat.le_of_lt hg1))
  have hg1X : w.heap.size < X.heap.size := Nat.lt_trans hg1 hltN
  obtain ⟨g1, hg1e⟩ : ∃ z, w.heap.size = z := ⟨_, rfl⟩
  rw [hszR, hg1e] at hrgN hltN c39
  have HG := Lib.hid hg1e
  have HT := Lib.hid hT
  have HTX : Hid (∀ y, Below X.heap.size X y → dg.Tab y) := Lib.hid (fun y hy => hT.below (hbX.trans (hy.mono (Nat.le_of_lt hg1X))))
  have HNA := Lib.hid hNA
  have HRA := Lib.hid hRA
  have HBX := Lib.hid hbX
  have HCK := Lib.hid hck
  have HRCK := Lib.hid hrck
  have HFT := Lib.hid hft
  have HRFT := Lib.hid hrft
  clear hT hNL hRL hNA hRA hck hrck hft hrft hr5 he1 he2 hrgR hbR c34 hbN hbX
  rw [hg1e] at hrgX c34X hg1X hszR ⊢
  have HP := Lib.hid (And.intro hrgX hrgN)
  clear hrgX hrgN
  go_enter Tryd.func3, Tryd.ntmps3
  go_upto_region 1 with fail
  try rw [hW0]
  try rw [hX]
  try rw [hg1e]
  try rw [hszR]
  by_cases hbig : 4096 < n1
  · have h1i : (4096 : Int) < n1 := by omega
    go_wp2_with (go_at_call 12; refine (rc.awake_any _ (HTX.out _ (Below.refl _ _))).mono ?_; rintro e w1 ⟨rfl, hb1⟩)
    go_ret
    exact ⟨rfl, by rw [← HG.out]; exact HBX.out.trans (hb1.mono (by rw [HG.out]; exact Nat.le_of_lt hg1X))⟩
  have hbi : ¬ (4096 : Int) < n1 := by omega
  by_cases hbig2 : 4096 < n
  · have h1i : (4096 : Int) < n := by omega
    go_wp2_with (go_at_call 12; refine (rc.awake_any _ (HTX.out _ (Below.refl _ _))).mono ?_; rintro e w1 ⟨rfl, hb1⟩)
    go_ret
    exact ⟨rfl, by rw [← HG.out]; exact HBX.out.trans (hb1.mono (by rw [HG.out]; exact Nat.le_of_lt hg1X))⟩
  have hbi2 : ¬ (4096 : Int) < n := by omega
  go_upto_region 3 with fail
  have hS0 : Below X.heap.size X X.drew := lz.below_drew (Below.refl _ _)
  obtain ⟨wq, hwq⟩ : ∃ z, X.drew = z := ⟨_, rfl⟩
  have HS := Lib.hid hS0
  rw [hwq] at HS
  refine wp_region_held_drew (S := fun y => Below X.heap.size X y) (by kernel_rfl) hS0 (fun hHeld => ?_)
  rw [hwq] at hHeld ⊢
  clear hwq hS0
  refine wpAnyH_take (i := 0) (oi := { dst := some 17, op := Op.load 26 (Operand.tmp 2), type := 26, pos := "law.go:31", after := #[], guard := none }) (v := .agg RL.toArray) rfl (by kernel_rfl) (by kernel_rfl) (by kernel_rfl) (fun _ _ _ h => h) ?hy71_0 (by assumption) ?rest71_0
  case hy71_0 => exact yieldsIf_load_mid (by rfl) 26 (.tmp 2) rfl g1 0 rfl RL _ (fun y hy => dg.range_below HP.out.1 hy hg1X) Tryd.underlying26 rfl hinfR
  try simp only [Act.put, List.setIfInBounds_toArray, List.set_cons_zero, List.set_cons_succ]
  refine wpAnyH_take (i := 2) (oi := { dst := some 19, op := Op.load 26 (Operand.tmp 2), type := 26, pos := "law.go:31", after := #[], guard := none }) (v := .agg RL.toArray) rfl (by kernel_rfl) (by kernel_rfl) (by kernel_rfl) (fun _ _ _ h => h) ?hy71_2 (by assumption) ?rest71_2
  case hy71_2 => exact yieldsIf_load_mid (by rfl) 26 (.tmp 2) rfl g1 0 rfl RL _ (fun y hy => dg.range_below HP.out.1 hy hg1X) Tryd.underlying26 rfl hinfR
  try simp only [Act.put, List.setIfInBounds_toArray, List.set_cons_zero, List.set_cons_succ]
  refine wpAnyH_ready (rs := [1]) (by kernel_rfl) (by simp) ?_
  refine AllReadyH.cons (o := { dst := some 18, op := Op.call { callee := Callee.value (Operand.func 13), args := #[Operand.tmp 17], argTypes := #[26] }, type := 30, pos := "law.go:31", after := #[{ on := 0, ground := Ground.data }], guard := none }) rfl (fun K hK => ?_) AllReadyH.nil
  go_simp
  refine (HCK.out _).mono ?_
  rintro e w4 ⟨rfl, hb4⟩
  have sw4 : Below X.heap.size X w4 := HS.out.trans (hb4.mono HS.out.size)
  refine hK.out _ _ sw4 (fun _ => ?_)
  clear hK K
  try simp only [Act.put, List.setIfInBounds_toArray, List.set_cons_zero, List.set_cons_succ]
  refine wpAnyH_ready (rs := [3]) (by kernel_rfl) (by simp) ?_
  refine AllReadyH.cons (o := { dst := some 20, op := Op.call { callee := Callee.value (Operand.func 14), args := #[Operand.tmp 19], argTypes := #[26] }, type := 30, pos := "law.go:31", after := #[{ on := 2, ground := Ground.data }, { on := 1, ground := Ground.chain }], guard := none }) rfl (fun K hK => ?_) AllReadyH.nil
  go_simp
  refine (HRCK.out _).mono ?_
  rintro e w5 ⟨rfl, hb5⟩
  have sw5 : Below X.heap.size X w5 := sw4.trans (hb5.mono sw4.size)
  refine hK.out _ _ sw5 (fun _ => ?_)
  clear hK K
  try simp only [Act.put, List.setIfInBounds_toArray, List.set_cons_zero, List.set_cons_succ]
  refine wpAnyH_take (i := 4) (oi := { dst := some 21, op := Op.binOp BinOp.eql 30 (Operand.tmp 18) (Operand.tmp 20) 30, type := 4, pos := "law.go:31", after := #[{ on := 1, ground := Ground.data }, { on := 3, ground := Ground.data }], guard := none }) (v := .bool true) rfl (by kernel_rfl) (by kernel_rfl) (by kernel_rfl) (fun _ _ _ h => h) (Or.inl ⟨by rfl, ?hy71_4⟩) (by assumption) ?rest71_4
  case hy71_4 => (intro w hSw; (try dsimp only at hSw); go_simp; try with_reducible rfl)
  try simp only [Act.put, List.setIfInBounds_toArray, List.set_cons_zero, List.set_cons_succ]
  refine wpAnyH_take (i := 5) (oi := { dst := some 22, op := Op.move (Operand.tmp 21), type := 4, pos := "law.go:31", after := #[{ on := 4, ground := Ground.data }, { on := 3, ground := Ground.chain }], guard := none }) (v := .bool true) rfl (by kernel_rfl) (by kernel_rfl) (by kernel_rfl) (fun _ _ _ h => h) (Or.inl ⟨by rfl, ?hy71_5⟩) (by assumption) ?rest71_5
  case hy71_5 => (intro w hSw; (try dsimp only at hSw); go_simp; try with_reducible rfl)
  try simp only [Act.put, List.setIfInBounds_toArray, List.set_cons_zero, List.set_cons_succ]
  refine wpAnyH_take (i := 6) (oi := { dst := some 23, op := Op.load 28 (Operand.tmp 3), type := 28, pos := "law.go:31", after := #[{ on := 5, ground := Ground.guard }], guard := some (5, true) }) (v := .agg NL.toArray) rfl (by kernel_rfl) (by kernel_rfl) (by kernel_rfl) (fun _ _ _ h => h) ?hy71_6 (by assumption) ?rest71_6
  case hy71_6 => exact yieldsIf_load_mid (by rfl) 28 (.tmp 3) rfl (g1 + 1) 0 rfl NL _ (fun y hy => dg.range_below HP.out.2 hy hltN) Tryd.underlying28 rfl hinfN
  try simp only [Act.put, List.setIfInBounds_toArray, List.set_cons_zero, List.set_cons_succ]
  refine wpAnyH_take (i := 8) (oi := { dst := some 25, op := Op.load 28 (Operand.tmp 3), type := 28, pos := "law.go:31", after := #[{ on := 5, ground := Ground.guard }], guard := some (5, true) }) (v := .agg NL.toArray) rfl (by kernel_rfl) (by kernel_rfl) (by kernel_rfl) (fun _ _ _ h => h) ?hy71_8 (by assumption) ?rest71_8
  case hy71_8 => exact yieldsIf_load_mid (by rfl) 28 (.tmp 3) rfl (g1 + 1) 0 rfl NL _ (fun y hy => dg.range_below HP.out.2 hy hltN) Tryd.underlying28 rfl hinfN
  try simp only [Act.put, List.setIfInBounds_toArray, List.set_cons_zero, List.set_cons_succ]
  refine wpAnyH_ready (rs := [7]) (by kernel_rfl) (by simp) ?_
  refine AllReadyH.cons (o := { dst := some 24, op := Op.call { callee := Callee.value (Operand.func 15), args := #[Operand.tmp 23], argTypes := #[28] }, type := 30, pos := "law.go:31", after := #[{ on := 6, ground := Ground.data }, { on := 5, ground := Ground.chain }, { on := 5, ground := Ground.guard }], guard := some (5, true) }) rfl (fun K hK => ?_) AllReadyH.nil
  go_simp
  refine (HFT.out _).mono ?_
  rintro e w6 ⟨rfl, hb6⟩
  have sw6 : Below X.heap.size X w6 := sw5.trans (hb6.mono sw5.size)
  refine hK.out _ _ sw6 (fun _ => ?_)
  clear hK K
  try simp only [Act.put, List.setIfInBounds_toArray, List.set_cons_zero, List.set_cons_succ]
  refine wpAnyH_ready (rs := [9]) (by kernel_rfl) (by simp) ?_
  refine AllReadyH.cons (o := { dst := some 26, op := Op.call { callee := Callee.value (Operand.func 16), args := #[Operand.tmp 25], argTypes := #[28] }, type := 30, pos := "law.go:31", after := #[{ on := 8, ground := Ground.data }, { on := 7, ground := Ground.chain }, { on := 5, ground := Ground.guard }], guard := some (5, true) }) rfl (fun K hK => ?_) AllReadyH.nil
  go_simp
  refine (HRFT.out _).mono ?_
  rintro e w7 ⟨rfl, hb7⟩
  have sw7 : Below X.heap.size X w7 := sw6.trans (hb7.mono sw6.size)
  refine hK.out _ _ sw7 (fun _ => ?_)
  clear hK K
  try simp only [Act.put, List.setIfInBounds_toArray, List.set_cons_zero, List.set_cons_succ]
  refine wpAnyH_take (i := 10) (oi := { dst := some 27, op := Op.binOp BinOp.eql 30 (Operand.tmp 24) (Operand.tmp 26) 30, type := 4, pos := "law.go:31", after := #[{ on := 7, ground := Ground.data }, { on := 9, ground := Ground.data }, { on := 5, ground := Ground.guard }], guard := some (5, true) }) (v := .bool true) rfl (by kernel_rfl) (by kernel_rfl) (by kernel_rfl) (fun _ _ _ h => h) (Or.inl ⟨by rfl, ?hy71_10⟩) (by assumption) ?rest71_10
  case hy71_10 => (intro w hSw; (try dsimp only at hSw); go_simp; try with_reducible rfl)
  try simp only [Act.put, List.setIfInBounds_toArray, List.set_cons_zero, List.set_cons_succ]
  refine wpAnyH_take (i := 11) (oi := { dst := some 28, op := Op.pick (Operand.tmp 22) (Operand.tmp 27) (Operand.const (Value.bool false)), type := 4, pos := "law.go:31", after := #[{ on := 5, ground := Ground.data }, { on := 10, ground := Ground.data }], guard := none }) (v := .bool true) rfl (by kernel_rfl) (by kernel_rfl) (by kernel_rfl) (fun _ _ _ h => h) (Or.inl ⟨by rfl, ?hy71_11⟩) (by assumption) ?rest71_11
  case hy71_11 => (intro w hSw; (try dsimp only at hSw); go_simp; try with_reducible rfl)
  try simp only [Act.put, List.setIfInBounds_toArray, List.set_cons_zero, List.set_cons_succ]
  refine wpAnyH_take (i := 12) (oi := { dst := some 29, op := Op.move (Operand.tmp 28), type := 4, pos := "law.go:31", after := #[{ on := 11, ground := Ground.data }, { on := 9, ground := Ground.chain }], guard := none }) (v := .bool true) rfl (by kernel_rfl) (by kernel_rfl) (by kernel_rfl) (fun _ _ _ h => h) (Or.inl ⟨by rfl, ?hy71_12⟩) (by assumption) ?rest71_12
  case hy71_12 => (intro w hSw; (try dsimp only at hSw); go_simp; try with_reducible rfl)
  try simp only [Act.put, List.setIfInBounds_toArray, List.set_cons_zero, List.set_cons_succ]
  refine wpAnyH_ready (rs := [13]) (by kernel_rfl) (by simp) ?_
  refine AllReadyH.cons (o := { dst := some 30, op := Op.call { callee := Callee.value (Operand.func 12), args := #[], argTypes := #[] }, type := 4, pos := "law.go:31", after := #[{ on := 12, ground := Ground.chain }, { on := 12, ground := Ground.guard }], guard := some (12, true) }) rfl (fun K hK => ?_) AllReadyH.nil
  go_simp
  refine (rc.awake_any _ (HTX.out _ sw7)).mono ?_
  rintro e w8 ⟨rfl, hb8⟩
  have sw8 : Below X.heap.size X w8 := sw7.trans (hb8.mono sw7.size)
  refine hK.out _ _ sw8 (fun _ => ?_)
  clear hK K
  try simp only [Act.put, List.setIfInBounds_toArray, List.set_cons_zero, List.set_cons_succ]
  refine wpAnyH_take (i := 14) (oi := { dst := some 31, op := Op.pick (Operand.tmp 29) (Operand.tmp 30) (Operand.const (Value.bool false)), type := 4, pos := "law.go:31", after := #[{ on := 12, ground := Ground.data }, { on := 13, ground := Ground.data }], guard := none }) (v := .bool true) rfl (by kernel_rfl) (by kernel_rfl) (by kernel_rfl) (fun _ _ _ h => h) (Or.inl ⟨by rfl, ?hy71_14⟩) (by assumption) ?rest71_14
  case hy71_14 => (intro w hSw; (try dsimp only at hSw); go_simp; try with_reducible rfl)
  try simp only [Act.put, List.setIfInBounds_toArray, List.set_cons_zero, List.set_cons_succ]
  refine wpAnyH_take (i := 15) (oi := { dst := some 4, op := Op.assign (Operand.tmp 31), type := 4, pos := "law.go:31", after := #[{ on := 14, ground := Ground.data }, { on := 13, ground := Ground.chain }, { on := 0, ground := Ground.phase }, { on := 1, ground := Ground.phase }, { on := 2, ground := Ground.phase }, { on := 3, ground := Ground.phase }, { on := 4, ground := Ground.phase }, { on := 5, ground := Ground.phase }, { on := 6, ground := Ground.phase }, { on := 7, ground := Ground.phase }, { on := 8, ground := Ground.phase }, { on := 9, ground := Ground.phase }, { on := 10, ground := Ground.phase }, { on := 11, ground := Ground.phase }, { on := 12, ground := Ground.phase }, { on := 13, ground := Ground.phase }, { on := 14, ground := Ground.phase }], guard := none }) (v := .bool true) rfl (by kernel_rfl) (by kernel_rfl) (by kernel_rfl) (fun _ _ _ h => h) (Or.inl ⟨by rfl, ?hy71_15⟩) (by assumption) ?rest71_15
  case hy71_15 => (intro w hSw; (try dsimp only at hSw); go_simp; try with_reducible rfl)
  try simp only [Act.put, List.setIfInBounds_toArray, List.set_cons_zero, List.set_cons_succ]
  refine wpAnyH_done (by kernel_rfl) ?_ _
  go_wp2_with fail
  go_ret
  exact ⟨rfl, by rw [← HG.out]; exact HBX.out.trans (sw8.mono (by rw [HG.out]; exact Nat.le_of_lt hg1X))⟩
end Go.Proofs.YtbcgnacfhpahkaaDoor.recordChecksDone
namespace Go.Proofs.YtbcgnacfhpahkaaDoor.recordChecksDone
open Go.ChangeShapes Go.WideShapes Go.ChangeAt Go.RowKit Mem OM LM DM dg rc
set_option linter.unusedVariables false
set_option maxRecDepth 100000
theorem contract (H : Type) (enc : TypeId × Value → H) (W : World) (base : Nat) (args : Array Value) (ds gs : List (DataW H)) (before : List MemPlace)
    (hval : ∀ (j : Nat) t v, Tryd.f3.params[j]? = some t → args[j]? = some v → Value.okWide Tryd.prog W .any base t v)
    (hW : DataW.Whole enc Tryd.prog Tryd.f3.params.toList Rows.recordChecksSpec.vars false W args.toList ds gs before) (hL : laidMetH Tryd.prog Rows.recordChecksRow.laid W) :
    Calls Tryd.prog 3 args W fun e W' => ∃ v, e = .returned v ∧ Rows.recordChecksSpec.post enc Tryd.prog Tryd.f3 false true false false W args v W' := by
  have hW' := hW
  have hT : Tab W := table rfl hL
  obtain ⟨p, q, hA0, hV, rfl, hfz, hnd⟩ := hW
  have hA : DataW.TrodAll enc Tryd.prog W 0 (fun _ => true) true Tryd.f3.params.toList args.toList ds p := hA0
  rw [Tryd.params3] at hA hval
  obtain ⟨v0, vs0, d0, ds0, p0, q0, hargs, rfl, rfl, h0, r0⟩ := trodAll_cons hA
  obtain ⟨v1, vs1, d1, ds1, p1, q1, rfl, rfl, rfl, h1, r1⟩ := trodAll_cons r0
  obtain ⟨rfl, rfl, rfl⟩ := trodAll_nil r1
  obtain rfl : args = #[v0, v1] := by cases args; simp_all
  obtain ⟨rfl, rfl⟩ := trodVars_none hV
  have k0 := h0
  have lt0 : ∀ x ∈ p0, x.block < W.heap.size := by obtain ⟨m, hm⟩ := k0; exact DataW.trod_lt m _ _ _ hm
  obtain ⟨K0, S0, d0x, l0, A0, n0, c0, rfl, hd0, w0, m0, b0, hK0, hS0⟩ := open_rec (hval 0 26 v0 rfl rfl) h0
  have k1 := h1
  have lt1 : ∀ x ∈ p1, x.block < W.heap.size := by obtain ⟨m, hm⟩ := k1; exact DataW.trod_lt m _ _ _ hm
  obtain ⟨N1, F1, P1, D1, I1, K1, S1, d1x, l1, A1, n1, c1, rfl, hd1, w1, m1, b1, hK1, hS1, hN1, hF1, hP1, hD1, hI1⟩ := open_note (hval 1 28 v1 rfl rfl) h1
  clear hA0 hval
  refine (walk K0 S0 d0x l0 A0 n0 c0 N1 F1 P1 D1 I1 K1 S1 d1x l1 A1 n1 c1 W hT hd0 w0 m0 b0 hK0 hS0 hd1 w1 m1 b1 hK1 hS1 hN1 hF1 hP1 hD1 hI1).mono fun e W' ⟨he, bel⟩ => ?_
  subst he
  exact ⟨_, rfl, _, _, _, [], _, [], hW', trodAll_mk1 (shut_bool Tryd.underlying4 _), (trodAll_cons_mk (Below.trod laidOut (by kernel_rfl) (of_decide_eq_true (by kernel_rfl)) k0 bel lt0) (trodAll_cons_mk (Below.trod laidOut (by kernel_rfl) (of_decide_eq_true (by kernel_rfl)) k1 bel lt1) trodAll_mk0)), rfl, bel.frame _, fun h => by cases h⟩

theorem laid_met (os : Os) : laidMet Tryd.prog Rows.recordChecksRow.laid ((laidWorld os).forCall (fun _ _ => 0) ⟨#[], #[.agg recZ.toArray, .agg (noteL 0 0 0 0 0 0 0 z32 none 0 0).toArray], []⟩).memory :=
  laidMet_of_run' 8 (by kernel_rfl) (by kernel_rfl)
theorem reads (os : Os) {H : Type} (enc : TypeId × Value → H) : ∃ places, DataW.whole enc Tryd.prog ((laidWorld os).forCall (fun _ _ => 0) ⟨#[], #[.agg recZ.toArray, .agg (noteL 0 0 0 0 0 0 0 z32 none 0 0).toArray], []⟩).memory Tryd.f3.params.toList Rows.recordChecksSpec.vars false (#[.agg recZ.toArray, .agg (noteL 0 0 0 0 0 0 0 z32 none 0 0).toArray] : Array Value).toList 8 = some ([.agg [.lit (.int .i64 0), .lit (.int .i64 0), .agg (List.replicate 32 (.lit (.int .u8 0))), .nil], .agg [.lit (.int .i64 0), .lit (.int .i64 0), .lit (.int .i64 0), .lit (.int .i64 0), .lit (.int .i64 0), .agg [.lit (.int .i64 0), .lit (.int .i64 0), .agg (List.replicate 32 (.lit (.int .u8 0))), .nil]]], [], places) :=
  ⟨[], by kernel_rfl⟩
set_option maxRecDepth 100000 in
theorem lifted (os : Os) (started : os.Started) (H : Type) (enc : TypeId × Value → H) (F : Stop.Interp) :
    ReturnsInHanded {} Tryd.checked os 3 .any ((OpenSpec.ofChange Rows.recordChecksSpec).preRow enc Tryd.prog Tryd.f3 Rows.recordChecksRow.domain false Rows.recordChecksRow.laid) (((OpenSpec.ofChange Rows.recordChecksSpec).at F).post enc Tryd.prog Tryd.f3 false true false false) := by
  obtain ⟨places, hx⟩ := reads os enc
  refine returnsInHanded_of_row (C := Tryd.checked) (s := OpenSpec.ofChange Rows.recordChecksSpec) own started (by kernel_rfl) Tryd.func3
    (witness_row_at (enc := enc) (C := Tryd.checked) false (laidWorld os) #[.agg recZ.toArray, .agg (noteL 0 0 0 0 0 0 0 z32 none 0 0).toArray] rfl (by kernel_rfl) (by kernel_rfl) (by kernel_rfl)
      (OpenSpec.preRow_of_cond 8 hx (by kernel_rfl) (fun k hk => by cases hk) (by kernel_rfl) (laid_met os))) ?_
  intro W base args ds gs before hval hW _ _ _ hL _ _
  exact contract H enc W base args ds gs before hval hW hL
theorem said : Rows.RecordChecksSaid :=
  OpenClaim.holds_of_cond 3 Tryd.f3 rfl rfl rfl rfl rfl rfl rfl ⟨rfl, rfl, rfl, rfl, rfl⟩ rfl rfl rfl rfl rfl (by kernel_rfl) Tryd.func3 (by kernel_rfl)
    (of_decide_eq_true (by kernel_rfl)) (by unfold Func.isWrapper; first | (rw [if_pos (by decide +kernel)]; kernel_rfl) | (rw [if_neg (by decide +kernel)]; exact ⟨rfl, rfl⟩))
    (fun os started H enc _ F => by rw [OpenClaim.pre_eq_preRow]; exact lifted os started H enc F)
theorem plain (f : FuncId) (fn : Func) (hf : Tryd.pinned.checked.prog.funcNamed "flume/flumelaw10.RecordChecks" = some f) (hfn : Tryd.pinned.checked.prog.funcs[f]? = some fn) :
    false = Tryd.pinned.checked.prog.looks [] ∧ ∀ (j : Nat) t, fn.params[j]? = some t → Tryd.pinned.checked.prog.wantsStandIn t = false := by
  obtain rfl : f = 3 := Option.some.inj ((show Tryd.prog.funcNamed "flume/flumelaw10.RecordChecks" = some 3 by kernel_rfl).symm.trans hf) |>.symm
  obtain rfl : fn = Tryd.f3 := (Option.some.inj (Tryd.func3.symm.trans hfn)).symm
  refine ⟨by kernel_rfl, fun j t ht => ?_⟩
  rw [Tryd.params3] at ht
  have hm : t ∈ [26, 28] := by simpa using Array.mem_of_getElem? ht
  have hall : ([26, 28].all fun u => !Tryd.prog.wantsStandIn u) = true := by kernel_rfl
  exact (show Tryd.prog.wantsStandIn t = false by simpa using List.all_eq_true.1 hall t hm)
/-- the given statement -/
theorem proved : Rows.RecordChecksCardSaid :=
  Claim7.holds_tied_plain_at .later [] _ _ _ _ said (fun _ h => by cases h) (by kernel_rfl) (fun _ h => by cases h) recordChecks_row_tie rfl ⟨rfl, rfl⟩ (by kernel_rfl) rfl plain (by kernel_rfl)
#print axioms proved
end Go.Proofs.YtbcgnacfhpahkaaDoor.recordChecksDone
