/- A store: lists of digests compared. -/
import Derived.Test.YtnmifaohmafobaaStR
namespace Go.Proofs.Ytnmifaohmafobaa.st
open Go.RowKit Go.Shelf Mem SM
set_option linter.unusedVariables false
attribute [local go_sem] Oper.semAt_some
variable {w w' : World} {O : Nat → Prop} {s M R : Nat} {L : List Ent}
/-- a slice of these digests -/
def RdS (w : World) (v : Value) (l : List (List UInt8)) : Prop :=
  ∃ (A : Option Addr) (c : Nat), v = .slice A l.length c ∧ (∀ x ∈ l, x.length = 32) ∧ ∀ (j : Nat) (h : j < l.length), ∃ g o : Nat, A = some ⟨g, o, none⟩ ∧ g < w.heap.size ∧ w.rangeAt g (o + j * 32) (bv l[j])
theorem RdS.keep {v : Value} {l : List (List UInt8)} (h : RdS w v l) (hb : Below w.heap.size w w') : RdS w' v l := by
  obtain ⟨A, c, rfl, h1, h2⟩ := h
  refine ⟨A, c, rfl, h1, fun j hj => ?_⟩
  obtain ⟨g, o, rfl, h3, h4⟩ := h2 j hj
  exact ⟨g, o, rfl, Nat.lt_of_lt_of_le h3 hb.size, rng_below h4 hb h3⟩
theorem RdS.nil (w : World) (c : Nat) : RdS w (.slice none 0 c) [] := ⟨none, c, rfl, (fun x h => by cases h), fun j h => absurd h (by simp)⟩
theorem ret_bool {b c : Bool} (h : b = c) : Ending.returned (.bool b) = .returned (.bool c) := by rw [h]
set_option maxRecDepth 100000 in
theorem eqs_any (l k : List (List UInt8)) (v u : Value) (w : World) (hv : RdS w v l) (hu : RdS w u k) (hl : l.length ≤ 100000) (hk : k.length ≤ 100000) :
    Calls Try.prog 34 #[v, u] w fun e W' => e = .returned (.bool (decide (l = k))) ∧ Below w.heap.size w W' := by
  obtain ⟨A, ca, rfl, hl1, hl2⟩ := hv
  obtain ⟨B, cb, rfl, hk1, hk2⟩ := hu
  have HL := Lib.hid (And.intro hl1 hl2)
  have HK := Lib.hid (And.intro hk1 hk2)
  clear hl1 hl2 hk1 hk2
  by_cases hne : l.length = k.length
  rotate_left
  · have h1 : decide (l = k) = false := decide_eq_false (fun e => hne (by rw [e]))
    have h2 : ((l.length : Nat) : Int) ≠ ((k.length : Nat) : Int) := by omega
    have h3 : ¬ l.length = k.length := hne
    rw [h1]
    go_enter Try.func34, Try.ntmps34
    go_wp2_with fail
    go_ret
    exact ⟨rfl, Below.refl _ _⟩
  go_enter Try.func34, Try.ntmps34
  have h2 : ((l.length : Nat) : Int) = ((k.length : Nat) : Int) := by omega
  have hkl : k.length = l.length := hne.symm
  rw [hkl]
  clear h2 hne
  go_wp2_with fail
  go_loopw [5, 13] (fun _ i wr => ∃ j q : Nat, i = .int .i64 j ∧ j ≤ l.length ∧ Hid (l.take j = k.take j) ∧ wr = w.drewN q) (fun _ i _ => l.length - (intOf i).toNat)
  case atStart => exact ⟨0, 0, rfl, by omega, Lib.hid rfl, rfl⟩
  case round =>
    obtain ⟨j, q, rfl, hj, HT, rfl⟩ := hrel
    by_cases hlt : j < l.length
    · obtain ⟨g1, o1, rfl, hg1, hr1⟩ := HL.out.2 j hlt
      obtain ⟨g2, o2, rfl, hg2, hr2⟩ := HK.out.2 j (by omega)
      have hlk : j < k.length := by omega
      have hx1 := HL.out.1 _ (List.getElem_mem hlt)
      have hy1 := HK.out.1 _ (List.getElem_mem hlk)
      have ht1 : l.take (j + 1) = l.take j ++ [l[j]] := List.take_succ_eq_append_getElem hlt
      have ht2 : k.take (j + 1) = k.take j ++ [k[j]] := List.take_succ_eq_append_getElem hlk
      have HT2 := Lib.hid (And.intro ht1 ht2)
      have hbn := fun w => sum_neq l[j] k[j] hx1 hy1 w
      have hxl : (bv l[j]).length = 32 := by rw [bv_len, hx1]
      have hyl : (bv k[j]).length = 32 := by rw [bv_len, hy1]
      have hqq : l[j] ≠ k[j] → l ≠ k := by
        intro hxy e
        exact hxy (by simp only [e])
      have HQ := Lib.hid hqq
      clear ht1 ht2 hx1 hy1 hqq
      obtain ⟨bb, hbb⟩ : ∃ bb, (!decide (l[j] = k[j])) = bb := ⟨_, rfl⟩
      simp only [hbb] at hbn
      have HBB := Lib.hid hbb
      clear hbb
      obtain ⟨XS, hXS⟩ : ∃ XS, bv l[j] = XS := ⟨_, rfl⟩
      obtain ⟨YS, hYS⟩ : ∃ YS, bv k[j] = YS := ⟨_, rfl⟩
      rw [hXS] at hr1 hxl
      rw [hYS] at hr2 hyl
      simp only [hXS, hYS] at hbn
      clear hXS hYS
      have hk1 : (j : Int) < ((l.length : Nat) : Int) := by omega
      have hu40 := Try.underlying40
      have HI1 : (Try.prog.info? 40).map (·.size) = some XS.length := by rw [hxl]; exact info_sum
      have HI2 : (Try.prog.info? 40).map (·.size) = some YS.length := by rw [hyl]; exact info_sum
      have hr1q : (w.drewN q).rangeAt g1 (o1 + j * 32) XS := fun i v hv => hr1 i v hv
      have hr2q : (w.drewN q).rangeAt g2 (o2 + j * 32) YS := fun i v hv => hr2 i v hv
      go_wp2_with fail
      refine wp_region_held_drew (S := fun w' => w'.rangeAt g1 (o1 + j * 32) XS ∧ w'.rangeAt g2 (o2 + j * 32) YS) (by kernel_rfl) ⟨hr1q, hr2q⟩ (fun hHeld => ?_)
      refine wpAnyH_take (i := 0) (oi := { dst := some 16, op := Op.move (Operand.tmp 0), type := 51, pos := "slices.go:25", after := #[], guard := none }) (v := .slice (some ⟨g1, o1, none⟩) l.length ca) rfl (by kernel_rfl) (by kernel_rfl) (by kernel_rfl) (fun _ _ _ h => h) (Or.inl ⟨by rfl, ?hy0⟩) (by assumption) ?rest0
      case hy0 => (intro w hSw; (try dsimp only at hSw); go_split_ands; go_simp; try with_reducible rfl)
      try simp only [Act.put, List.setIfInBounds_toArray, List.set_cons_zero, List.set_cons_succ]
      refine wpAnyH_take (i := 1) (oi := { dst := some 17, op := Op.move (Operand.tmp 5), type := 3, pos := "slices.go:25", after := #[], guard := none }) (v := .int .i64 (j : Nat)) rfl (by kernel_rfl) (by kernel_rfl) (by kernel_rfl) (fun _ _ _ h => h) (Or.inl ⟨by rfl, ?hy1⟩) (by assumption) ?rest1
      case hy1 => (intro w hSw; (try dsimp only at hSw); go_split_ands; go_simp; try with_reducible rfl)
      try simp only [Act.put, List.setIfInBounds_toArray, List.set_cons_zero, List.set_cons_succ]
      refine wpAnyH_take (i := 2) (oi := { dst := some 18, op := Op.indexAddr 51 (Operand.tmp 16) (Operand.tmp 17), type := 0, pos := "slices.go:25", after := #[{ on := 0, ground := Ground.data }, { on := 1, ground := Ground.data }], guard := none }) (v := .pointer (some ⟨g1, o1 + j * 32, none⟩)) rfl (by kernel_rfl) (by kernel_rfl) (by kernel_rfl) (fun _ _ _ h => h) (Or.inl ⟨by rfl, ?hy2⟩) (by assumption) ?rest2
      case hy2 => (intro w hSw; (try dsimp only at hSw); go_split_ands; go_simp; try with_reducible rfl)
      try simp only [Act.put, List.setIfInBounds_toArray, List.set_cons_zero, List.set_cons_succ]
      refine wpAnyH_take (i := 3) (oi := { dst := some 19, op := Op.load 40 (Operand.tmp 18), type := 40, pos := "slices.go:25", after := #[{ on := 2, ground := Ground.data }], guard := none }) (v := .agg XS.toArray) rfl (by kernel_rfl) (by kernel_rfl) (by kernel_rfl) (fun _ _ _ h => h) (yieldsIf_load_mid (by rfl) 40 (.tmp 18) rfl g1 (o1 + j * 32) rfl XS _ (fun _ h => h.1) hu40 rfl HI1) (by assumption) ?rest3
      try simp only [Act.put, List.setIfInBounds_toArray, List.set_cons_zero, List.set_cons_succ]
      refine wpAnyH_take (i := 4) (oi := { dst := some 20, op := Op.move (Operand.tmp 1), type := 51, pos := "slices.go:25", after := #[], guard := none }) (v := .slice (some ⟨g2, o2, none⟩) l.length cb) rfl (by kernel_rfl) (by kernel_rfl) (by kernel_rfl) (fun _ _ _ h => h) (Or.inl ⟨by rfl, ?hy4⟩) (by assumption) ?rest4
      case hy4 => (intro w hSw; (try dsimp only at hSw); go_split_ands; go_simp; try with_reducible rfl)
      try simp only [Act.put, List.setIfInBounds_toArray, List.set_cons_zero, List.set_cons_succ]
      refine wpAnyH_take (i := 5) (oi := { dst := some 21, op := Op.move (Operand.tmp 5), type := 3, pos := "slices.go:25", after := #[], guard := none }) (v := .int .i64 (j : Nat)) rfl (by kernel_rfl) (by kernel_rfl) (by kernel_rfl) (fun _ _ _ h => h) (Or.inl ⟨by rfl, ?hy5⟩) (by assumption) ?rest5
      case hy5 => (intro w hSw; (try dsimp only at hSw); go_split_ands; go_simp; try with_reducible rfl)
      try simp only [Act.put, List.setIfInBounds_toArray, List.set_cons_zero, List.set_cons_succ]
      refine wpAnyH_take (i := 6) (oi := { dst := some 22, op := Op.indexAddr 51 (Operand.tmp 20) (Operand.tmp 21), type := 0, pos := "slices.go:25", after := #[{ on := 4, ground := Ground.data }, { on := 5, ground := Ground.data }], guard := none }) (v := .pointer (some ⟨g2, o2 + j * 32, none⟩)) rfl (by kernel_rfl) (by kernel_rfl) (by kernel_rfl) (fun _ _ _ h => h) (Or.inl ⟨by rfl, ?hy6⟩) (by assumption) ?rest6
      case hy6 => (intro w hSw; (try dsimp only at hSw); go_split_ands; go_simp; try with_reducible rfl)
      try simp only [Act.put, List.setIfInBounds_toArray, List.set_cons_zero, List.set_cons_succ]
      refine wpAnyH_take (i := 7) (oi := { dst := some 23, op := Op.load 40 (Operand.tmp 22), type := 40, pos := "slices.go:25", after := #[{ on := 6, ground := Ground.data }], guard := none }) (v := .agg YS.toArray) rfl (by kernel_rfl) (by kernel_rfl) (by kernel_rfl) (fun _ _ _ h => h) (yieldsIf_load_mid (by rfl) 40 (.tmp 22) rfl g2 (o2 + j * 32) rfl YS _ (fun _ h => h.2) hu40 rfl HI2) (by assumption) ?rest7
      try simp only [Act.put, List.setIfInBounds_toArray, List.set_cons_zero, List.set_cons_succ]
      refine wpAnyH_take (i := 8) (oi := { dst := some 24, op := Op.binOp BinOp.neq 40 (Operand.tmp 19) (Operand.tmp 23) 40, type := 4, pos := "slices.go:25", after := #[{ on := 3, ground := Ground.data }, { on := 7, ground := Ground.data }], guard := none }) (v := .bool bb) rfl (by kernel_rfl) (by kernel_rfl) (by kernel_rfl) (fun _ _ _ h => h) (Or.inl ⟨by rfl, ?hy8⟩) (by assumption) ?rest8
      case hy8 => (intro w hSw; go_simp; try (rw [hbn]; rfl))
      try simp only [Act.put, List.setIfInBounds_toArray, List.set_cons_zero, List.set_cons_succ]
      refine wpAnyH_done (by kernel_rfl) ?_ _
      cases bb with
      | false =>
        have HEQ : Hid (l[j] = k[j]) := Lib.hid (by have := HBB.out; simpa using this)
        go_wp2_with fail
        go_roundw
        case rel => exact ⟨j + 1, _, by go_num, by omega, Lib.hid (by rw [HT2.out.1, HT2.out.2, HT.out, HEQ.out]), rfl⟩
        case measure => simp [intOf]; omega
      | true =>
        go_wp2_with fail
        go_ret
        refine ⟨ret_bool (decide_eq_false (HQ.out (by have := HBB.out; simpa using this))).symm, below_drew (below_drewN (Below.refl _ _) _)⟩
    · have HE : Hid (l = k) := Lib.hid (by
        have := HT.out
        rwa [List.take_of_length_le (by omega), List.take_of_length_le (by omega)] at this)
      go_wp2_with fail
      go_ret
      exact ⟨ret_bool (decide_eq_true HE.out).symm, below_drewN (Below.refl _ _) _⟩
end Go.Proofs.Ytnmifaohmafobaa.st
