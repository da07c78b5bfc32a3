/- A store: a call as the law does it. -/
import Derived.Test.YtnmifaohmafobaaStX
namespace Go.Proofs.Ytnmifaohmafobaa.st
open Go.RowKit Go.Shelf Mem SM
set_option linter.unusedVariables false
attribute [local go_sem] Oper.semAt_some
variable {w0 w w' y : World} {O : Nat → Prop} {s M R : Nat} {L : List Ent}
def opN (k : DoV) : Nat := (k.op % 8).toNat
theorem opN_lt (k : DoV) : opN k < 8 := by unfold opN; omega
theorem op_eq (k : DoV) : wrap64 ((IntKind.u64.wrap k.op).tmod 8) = (opN k : Nat) := by
  have h0 : 0 ≤ k.op % 18446744073709551616 := Int.emod_nonneg _ (by decide)
  rw [IntKind.wrap_u64, Int.tmod_eq_emod_of_nonneg h0]
  unfold wrap64 opN
  omega
/-- what a call leaves -/
def doL (k : DoV) (M R : Nat) (L : List Ent) : List Ent :=
  if opN k = 3 then SM.use (sumOf k.id) L
  else if opN k = 4 then SM.pin (sumOf k.id) L
  else if opN k = 5 then unpinL (sumOf k.id) L
  else if opN k = 6 then SM.evict (sumOf k.id) L
  else if opN k = 7 then (if k.n = 0 then [] else L)
  else putL (sumOf k.id) k.data M R L
/-- what it answers -/
def doE (k : DoV) (M R : Nat) (L : List Ent) : Nat :=
  if opN k = 3 ∨ opN k = 4 ∨ opN k = 6 then (if sumOf k.id ∈ sums L then 0 else 90)
  else if opN k = 5 then unpinE (sumOf k.id) L
  else if opN k = 7 then 0
  else putE (sumOf k.id) k.data M R L
/-- a call's outcome -/
def DoPost (w0 w : World) (O : Nat → Prop) (k : DoV) (s M R : Nat) (L : List Ent) (e : Ending) (w' : World) : Prop :=
  e = .returned (.int .i64 (doE k M R L : Nat)) ∧ Step w0 w O s M R (doL k M R L) w'
theorem does_get (k : DoV) (A : Option Addr) (n c : Nat) (w : World) (h : AtO w0 w O s M R L) (h3 : opN k = 3) :
    Calls Try.prog 28 #[.pointer (some ⟨s, 0, none⟩), doV k A n c] w (DoPost w0 w O k s M R L) := by
  have q3 : (wrap64 ((IntKind.u64.wrap k.op).tmod 8) == 3) = true := by rw [op_eq, h3]; rfl
  have hbb : Below w.heap.size w (w.alloc (.cells #[.int .i64 k.op, .int .i64 k.id, .slice A n c, .int .i64 k.n] 34)) := (Below.refl _ _).alloc (Nat.le_refl _) _
  have HA := Lib.hid (h.below hbb)
  have HBB := Lib.hid hbb
  obtain ⟨SS, hSS⟩ : ∃ SS, (bv (sumOf k.id)).toArray = SS := ⟨_, rfl⟩
  have HSS := Lib.hid hSS
  clear hSS h hbb
  unfold doV
  go_enter Try.func28, Try.ntmps28
  go_wp2_with fail
  refine (sum_of k.id _).mono ?_
  rintro e y1 ⟨rfl, hb⟩
  replace HBB := Lib.hid (HBB.out.trans (hb.mono HBB.out.size))
  replace HA := Lib.hid (HA.out.below hb)
  rw [HSS.out]
  clear hb
  go_wp2_with fail
  rw [← HSS.out]
  refine (get_st (sumOf k.id) y1 (sumOf_len _) HA.out).mono ?_
  rintro e y2 ⟨AA, kk, cc, rfl, _, _, hst⟩
  obtain ⟨EE, hEE⟩ : ∃ z : Nat, (if sumOf k.id ∈ sums L then 0 else 90 : Nat) = z := ⟨_, rfl⟩
  rw [hEE]
  have HE := Lib.hid hEE
  clear hEE
  have HF := Lib.hid (Step.after HBB.out hst)
  clear hst HA HBB
  go_wp2_with fail
  go_ret
  refine ⟨?_, ?_⟩
  · unfold doE
    rw [if_pos (Or.inl h3), HE.out]
    rfl
  · unfold doL
    rw [if_pos h3]
    exact HF.out
theorem does_pin (k : DoV) (A : Option Addr) (n c : Nat) (w : World) (h : AtO w0 w O s M R L) (h3 : opN k = 4) (hh : ∀ e ∈ L, e.held < 4611686018427387904) :
    Calls Try.prog 28 #[.pointer (some ⟨s, 0, none⟩), doV k A n c] w (DoPost w0 w O k s M R L) := by
  have q3 : (wrap64 ((IntKind.u64.wrap k.op).tmod 8) == 3) = false := by rw [op_eq, h3]; rfl
  have q4 : (wrap64 ((IntKind.u64.wrap k.op).tmod 8) == 4) = true := by rw [op_eq, h3]; rfl
  have hbb : Below w.heap.size w (w.alloc (.cells #[.int .i64 k.op, .int .i64 k.id, .slice A n c, .int .i64 k.n] 34)) := (Below.refl _ _).alloc (Nat.le_refl _) _
  have HA := Lib.hid (h.below hbb)
  have HBB := Lib.hid hbb
  obtain ⟨SS, hSS⟩ : ∃ SS, (bv (sumOf k.id)).toArray = SS := ⟨_, rfl⟩
  have HSS := Lib.hid hSS
  clear hSS h hbb
  unfold doV
  go_enter Try.func28, Try.ntmps28
  go_wp2_with fail
  refine (sum_of k.id _).mono ?_
  rintro e y1 ⟨rfl, hb⟩
  replace HBB := Lib.hid (HBB.out.trans (hb.mono HBB.out.size))
  replace HA := Lib.hid (HA.out.below hb)
  rw [HSS.out]
  clear hb
  go_wp2_with fail
  rw [← HSS.out]
  refine (pin_st (sumOf k.id) y1 (sumOf_len _) HA.out hh).mono ?_
  rintro e y2 ⟨rfl, hst⟩
  obtain ⟨EE, hEE⟩ : ∃ z : Nat, (if sumOf k.id ∈ sums L then 0 else 90 : Nat) = z := ⟨_, rfl⟩
  rw [hEE]
  have HE := Lib.hid hEE
  clear hEE
  have HF := Lib.hid (Step.after HBB.out hst)
  clear hst HA HBB
  go_wp2_with fail
  go_ret
  refine ⟨?_, ?_⟩
  · unfold doE
    rw [if_pos (Or.inr (Or.inl h3)), HE.out]
    rfl
  · unfold doL
    rw [if_neg (by omega), if_pos h3]
    exact HF.out
theorem does_unpin (k : DoV) (A : Option Addr) (n c : Nat) (w : World) (h : AtO w0 w O s M R L) (h3 : opN k = 5) (hh : ∀ e ∈ L, e.held < 4611686018427387904) :
    Calls Try.prog 28 #[.pointer (some ⟨s, 0, none⟩), doV k A n c] w (DoPost w0 w O k s M R L) := by
  have q3 : (wrap64 ((IntKind.u64.wrap k.op).tmod 8) == 3) = false := by rw [op_eq, h3]; rfl
  have q4 : (wrap64 ((IntKind.u64.wrap k.op).tmod 8) == 4) = false := by rw [op_eq, h3]; rfl
  have q5 : (wrap64 ((IntKind.u64.wrap k.op).tmod 8) == 5) = true := by rw [op_eq, h3]; rfl
  have hbb : Below w.heap.size w (w.alloc (.cells #[.int .i64 k.op, .int .i64 k.id, .slice A n c, .int .i64 k.n] 34)) := (Below.refl _ _).alloc (Nat.le_refl _) _
  have HA := Lib.hid (h.below hbb)
  have HBB := Lib.hid hbb
  obtain ⟨SS, hSS⟩ : ∃ SS, (bv (sumOf k.id)).toArray = SS := ⟨_, rfl⟩
  have HSS := Lib.hid hSS
  clear hSS h hbb
  unfold doV
  go_enter Try.func28, Try.ntmps28
  go_wp2_with fail
  refine (sum_of k.id _).mono ?_
  rintro e y1 ⟨rfl, hb⟩
  replace HBB := Lib.hid (HBB.out.trans (hb.mono HBB.out.size))
  replace HA := Lib.hid (HA.out.below hb)
  rw [HSS.out]
  clear hb
  go_wp2_with fail
  rw [← HSS.out]
  refine (unpin_st (sumOf k.id) y1 (sumOf_len _) HA.out hh).mono ?_
  rintro e y2 ⟨rfl, hst⟩
  have HF := Lib.hid (Step.after HBB.out hst)
  clear hst HA HBB
  go_wp2_with fail
  go_ret
  refine ⟨?_, ?_⟩
  · unfold doE
    rw [if_neg (by omega), if_pos h3]
    rfl
  · unfold doL
    rw [if_neg (by omega), if_neg (by omega), if_pos h3]
    exact HF.out
theorem does_evict (k : DoV) (A : Option Addr) (n c : Nat) (w : World) (h : AtO w0 w O s M R L) (h3 : opN k = 6) :
    Calls Try.prog 28 #[.pointer (some ⟨s, 0, none⟩), doV k A n c] w (DoPost w0 w O k s M R L) := by
  have q3 : (wrap64 ((IntKind.u64.wrap k.op).tmod 8) == 3) = false := by rw [op_eq, h3]; rfl
  have q4 : (wrap64 ((IntKind.u64.wrap k.op).tmod 8) == 4) = false := by rw [op_eq, h3]; rfl
  have q5 : (wrap64 ((IntKind.u64.wrap k.op).tmod 8) == 5) = false := by rw [op_eq, h3]; rfl
  have q6 : (wrap64 ((IntKind.u64.wrap k.op).tmod 8) == 6) = true := by rw [op_eq, h3]; rfl
  have hbb : Below w.heap.size w (w.alloc (.cells #[.int .i64 k.op, .int .i64 k.id, .slice A n c, .int .i64 k.n] 34)) := (Below.refl _ _).alloc (Nat.le_refl _) _
  have HA := Lib.hid (h.below hbb)
  have HBB := Lib.hid hbb
  obtain ⟨SS, hSS⟩ : ∃ SS, (bv (sumOf k.id)).toArray = SS := ⟨_, rfl⟩
  have HSS := Lib.hid hSS
  clear hSS h hbb
  unfold doV
  go_enter Try.func28, Try.ntmps28
  go_wp2_with fail
  refine (sum_of k.id _).mono ?_
  rintro e y1 ⟨rfl, hb⟩
  replace HBB := Lib.hid (HBB.out.trans (hb.mono HBB.out.size))
  replace HA := Lib.hid (HA.out.below hb)
  rw [HSS.out]
  clear hb
  go_wp2_with fail
  rw [← HSS.out]
  refine (evict_st (sumOf k.id) y1 (sumOf_len _) HA.out).mono ?_
  rintro e y2 ⟨rfl, hst⟩
  obtain ⟨EE, hEE⟩ : ∃ z : Nat, (if sumOf k.id ∈ sums L then 0 else 90 : Nat) = z := ⟨_, rfl⟩
  rw [hEE]
  have HE := Lib.hid hEE
  clear hEE
  have HF := Lib.hid (Step.after HBB.out hst)
  clear hst HA HBB
  go_wp2_with fail
  go_ret
  refine ⟨?_, ?_⟩
  · unfold doE
    rw [if_pos (Or.inr (Or.inr h3)), HE.out]
    rfl
  · unfold doL
    rw [if_neg (by omega), if_neg (by omega), if_neg (by omega), if_pos h3]
    exact HF.out
theorem does_wipe (k : DoV) (A : Option Addr) (n c : Nat) (w : World) (h : AtO w0 w O s M R L) (h3 : opN k = 7) :
    Calls Try.prog 28 #[.pointer (some ⟨s, 0, none⟩), doV k A n c] w (DoPost w0 w O k s M R L) := by
  have q3 : (wrap64 ((IntKind.u64.wrap k.op).tmod 8) == 3) = false := by rw [op_eq, h3]; rfl
  have q4 : (wrap64 ((IntKind.u64.wrap k.op).tmod 8) == 4) = false := by rw [op_eq, h3]; rfl
  have q5 : (wrap64 ((IntKind.u64.wrap k.op).tmod 8) == 5) = false := by rw [op_eq, h3]; rfl
  have q6 : (wrap64 ((IntKind.u64.wrap k.op).tmod 8) == 6) = false := by rw [op_eq, h3]; rfl
  have q7 : (wrap64 ((IntKind.u64.wrap k.op).tmod 8) == 7) = true := by rw [op_eq, h3]; rfl
  have hbb : Below w.heap.size w (w.alloc (.cells #[.int .i64 k.op, .int .i64 k.id, .slice A n c, .int .i64 k.n] 34)) := (Below.refl _ _).alloc (Nat.le_refl _) _
  have HA := Lib.hid (h.below hbb)
  have HBB := Lib.hid hbb
  obtain ⟨SS, hSS⟩ : ∃ SS, (bv (sumOf k.id)).toArray = SS := ⟨_, rfl⟩
  have HSS := Lib.hid hSS
  clear hSS h hbb
  unfold doV
  go_enter Try.func28, Try.ntmps28
  by_cases hz : k.n = 0
  · have hz2 : (k.n == 0) = true := by rw [hz]; rfl
    have HZZ := Lib.hid hz
    clear hz
    go_wp2_with fail
    refine (wipe_st _ HA.out).mono ?_
    rintro e y2 ⟨rfl, hst⟩
    have HF := Lib.hid (Step.after HBB.out hst)
    clear hst HA HBB
    go_wp2_with fail
    go_ret
    refine ⟨?_, ?_⟩
    · unfold doE
      rw [if_neg (by omega), if_neg (by omega), if_pos h3]
      rfl
    · unfold doL
      rw [if_neg (by omega), if_neg (by omega), if_neg (by omega), if_neg (by omega), if_pos h3, if_pos HZZ.out]
      exact HF.out
  · have hz2 : (k.n == 0) = false := by rw [beq_eq_false_iff_ne]; exact hz
    go_wp2_with fail
    go_ret
    refine ⟨?_, ?_⟩
    · unfold doE
      rw [if_neg (by omega), if_neg (by omega), if_pos h3]
      rfl
    · unfold doL
      rw [if_neg (by omega), if_neg (by omega), if_neg (by omega), if_neg (by omega), if_pos h3, if_neg hz]
      exact ⟨O, HA.out, (Kept.ofBelow HBB.out).more (fun i _ e => Or.inr e), fun i hi _ => hi⟩
theorem does_put0 (k : DoV) (A : Option Addr) (n c : Nat) (w : World) (h : AtO w0 w O s M R L) (h3 : opN k = 0) (hd : Rd w0 w0.heap.size A n (bv k.data)) (hn : n ≤ 281474976710656) :
    Calls Try.prog 28 #[.pointer (some ⟨s, 0, none⟩), doV k A n c] w (DoPost w0 w O k s M R L) := by
  have q3 : (wrap64 ((IntKind.u64.wrap k.op).tmod 8) == 3) = false := by rw [op_eq, h3]; rfl
  have q4 : (wrap64 ((IntKind.u64.wrap k.op).tmod 8) == 4) = false := by rw [op_eq, h3]; rfl
  have q5 : (wrap64 ((IntKind.u64.wrap k.op).tmod 8) == 5) = false := by rw [op_eq, h3]; rfl
  have q6 : (wrap64 ((IntKind.u64.wrap k.op).tmod 8) == 6) = false := by rw [op_eq, h3]; rfl
  have q7 : (wrap64 ((IntKind.u64.wrap k.op).tmod 8) == 7) = false := by rw [op_eq, h3]; rfl
  have hbb : Below w.heap.size w (w.alloc (.cells #[.int .i64 k.op, .int .i64 k.id, .slice A n c, .int .i64 k.n] 34)) := (Below.refl _ _).alloc (Nat.le_refl _) _
  have HA := Lib.hid (h.below hbb)
  have HBB := Lib.hid hbb
  obtain ⟨SS, hSS⟩ : ∃ SS, (bv (sumOf k.id)).toArray = SS := ⟨_, rfl⟩
  have HSS := Lib.hid hSS
  have HD := Lib.hid hd
  have HO := Lib.hid (fun i hi => (h.2.1 i hi).2 : ∀ i, O i → i < w.heap.size)
  clear hSS h hbb hd
  unfold doV
  go_enter Try.func28, Try.ntmps28
  go_wp2_with fail
  refine wp_region_held_drew (S := fun w' => w'.cell? ⟨w.heap.size, 1, none⟩ = some (.int .i64 k.id) ∧ w'.cell? ⟨w.heap.size, 2, none⟩ = some (.slice A n c)) (by kernel_rfl) (by constructor <;> go_simp) (fun hHeld => ?_)
  replace HA := Lib.hid HA.out.drew
  replace HBB := Lib.hid (below_drew HBB.out)
  have HC := Lib.hid hHeld
  have hsz : w.heap.size < (w.alloc (.cells #[.int .i64 k.op, .int .i64 k.id, .slice A n c, .int .i64 k.n] 34)).drew.heap.size := by show w.heap.size < (w.alloc _).heap.size; simp
  obtain ⟨y0, hy⟩ : ∃ z, (w.alloc (.cells #[.int .i64 k.op, .int .i64 k.id, .slice A n c, .int .i64 k.n] 34)).drew = z := ⟨_, rfl⟩
  rw [hy] at HA HBB HC hHeld hsz ⊢
  have HZ := Lib.hid hsz
  clear hy hsz
  refine wpAnyH_take (i := 0) (oi := { dst := some 12, op := Op.move (Operand.tmp 0), type := 23, pos := "law.go:60", after := #[], guard := none }) (v := .pointer (some ⟨s, 0, none⟩)) rfl (by kernel_rfl) (by kernel_rfl) (by kernel_rfl) (fun _ _ _ h => h) (Or.inl ⟨by rfl, ?hy0_1⟩) (by assumption) ?rest0_1
  case hy0_1 => (intro w hSw; (try dsimp only at hSw); go_split_ands; go_simp; try with_reducible rfl)
  try simp only [Act.put, List.setIfInBounds_toArray, List.set_cons_zero, List.set_cons_succ]
  refine wpAnyH_take (i := 1) (oi := { dst := some 13, op := Op.fieldAddr 34 (Operand.tmp 3) 1, type := 0, pos := "law.go:60", after := #[], guard := none }) (v := .pointer (some ⟨w.heap.size, 1, none⟩)) rfl (by kernel_rfl) (by kernel_rfl) (by kernel_rfl) (fun _ _ _ h => h) (Or.inl ⟨by rfl, ?hy1_2⟩) (by assumption) ?rest1_2
  case hy1_2 => (intro w hSw; (try dsimp only at hSw); go_split_ands; go_simp; try with_reducible rfl)
  try simp only [Act.put, List.setIfInBounds_toArray, List.set_cons_zero, List.set_cons_succ]
  refine wpAnyH_take (i := 2) (oi := { dst := some 14, op := Op.load 3 (Operand.tmp 13), type := 3, pos := "law.go:60", after := #[{ on := 1, ground := Ground.data }], guard := none }) (v := .int .i64 k.id) rfl (by kernel_rfl) (by kernel_rfl) (by kernel_rfl) (fun _ _ _ h => h) (Or.inl ⟨by rfl, ?hy2_3⟩) (by assumption) ?rest2_3
  case hy2_3 => (intro w hSw; (try dsimp only at hSw); go_split_ands; go_simp; try with_reducible rfl)
  try simp only [Act.put, List.setIfInBounds_toArray, List.set_cons_zero, List.set_cons_succ]
  refine wpAnyH_take (i := 4) (oi := { dst := some 16, op := Op.fieldAddr 34 (Operand.tmp 3) 2, type := 0, pos := "law.go:60", after := #[], guard := none }) (v := .pointer (some ⟨w.heap.size, 2, none⟩)) rfl (by kernel_rfl) (by kernel_rfl) (by kernel_rfl) (fun _ _ _ h => h) (Or.inl ⟨by rfl, ?hy4_4⟩) (by assumption) ?rest4_4
  case hy4_4 => (intro w hSw; (try dsimp only at hSw); go_split_ands; go_simp; try with_reducible rfl)
  try simp only [Act.put, List.setIfInBounds_toArray, List.set_cons_zero, List.set_cons_succ]
  refine wpAnyH_take (i := 5) (oi := { dst := some 17, op := Op.load 32 (Operand.tmp 16), type := 32, pos := "law.go:60", after := #[{ on := 4, ground := Ground.data }], guard := none }) (v := .slice A n c) rfl (by kernel_rfl) (by kernel_rfl) (by kernel_rfl) (fun _ _ _ h => h) (Or.inl ⟨by rfl, ?hy5_5⟩) (by assumption) ?rest5_5
  case hy5_5 => (intro w hSw; (try dsimp only at hSw); go_split_ands; go_simp; try with_reducible rfl)
  try simp only [Act.put, List.setIfInBounds_toArray, List.set_cons_zero, List.set_cons_succ]
  refine wpAnyH_ready (rs := [3]) (by kernel_rfl) (by simp) ?_
  refine AllReadyH.cons (o := { dst := some 15, op := Op.call { callee := Callee.value (Operand.func 19), args := #[Operand.tmp 14], argTypes := #[3] }, type := 40, pos := "law.go:60", after := #[{ on := 2, ground := Ground.data }], guard := none }) rfl (fun K hK => ?_) AllReadyH.nil
  go_simp
  refine (sum_of k.id _).mono ?_
  rintro e y1 ⟨rfl, hb⟩
  replace HBB := Lib.hid (HBB.out.trans (hb.mono HBB.out.size))
  replace HA := Lib.hid (HA.out.below hb)
  replace HC := Lib.hid (And.intro ((hb.cell (p := ⟨w.heap.size, 1, none⟩) HZ.out).trans HC.out.1) ((hb.cell (p := ⟨w.heap.size, 2, none⟩) HZ.out).trans HC.out.2))
  replace HZ := Lib.hid (Nat.lt_of_lt_of_le HZ.out hb.size)
  rw [HSS.out]
  clear hb
  go_wp2_with fail
  refine hK.out _ _ HC.out (fun hHeld => ?_)
  clear hK K
  try simp only [Act.put, List.setIfInBounds_toArray, List.set_cons_zero, List.set_cons_succ]
  refine wpAnyH_ready (rs := [6]) (by kernel_rfl) (by simp) ?_
  refine AllReadyH.cons (o := { dst := some 18, op := Op.call { callee := Callee.value (Operand.func 29), args := #[Operand.tmp 12, Operand.tmp 15, Operand.tmp 17], argTypes := #[23, 40, 32] }, type := 24, pos := "law.go:60", after := #[{ on := 0, ground := Ground.data }, { on := 3, ground := Ground.data }, { on := 5, ground := Ground.data }, { on := 3, ground := Ground.chain }], guard := none }) rfl (fun K hK => ?_) AllReadyH.nil
  go_simp
  rw [← HSS.out]
  refine (put_st (sumOf k.id) k.data A n c w0.heap.size y1 (sumOf_len _) HA.out (HD.out.below (HA.out.2.2) (Nat.le_refl _)) (fun i _ hi hO => by have := (HA.out.2.1 i hO).1; omega) HA.out.2.2.size hn).mono ?_
  rintro e y2 ⟨rfl, hst⟩
  have hc2 : y2.cell? ⟨w.heap.size, 1, none⟩ = some (.int .i64 k.id) ∧ y2.cell? ⟨w.heap.size, 2, none⟩ = some (.slice A n c) := by
    obtain ⟨O', _, hk, _⟩ := hst
    have hne : ¬ (O w.heap.size ∨ y1.heap.size ≤ w.heap.size) := fun e => by
      rcases e with e | e
      · exact absurd (HO.out _ e) (by omega)
      · have := HZ.out; omega
    exact ⟨(hk.cell (a := ⟨w.heap.size, 1, none⟩) HZ.out hne).trans HC.out.1, (hk.cell (a := ⟨w.heap.size, 2, none⟩) HZ.out hne).trans HC.out.2⟩
  have HF := Lib.hid (Step.after HBB.out hst)
  clear hst HA HBB HC
  rw [HSS.out]
  go_wp2_with fail
  refine hK.out _ _ hc2 (fun hHeld => ?_)
  clear hK K hc2
  try simp only [Act.put, List.setIfInBounds_toArray, List.set_cons_zero, List.set_cons_succ]
  refine wpAnyH_take (i := 7) (oi := { dst := some 4, op := Op.assign (Operand.tmp 18), type := 24, pos := "law.go:60", after := #[{ on := 6, ground := Ground.data }, { on := 6, ground := Ground.chain }, { on := 0, ground := Ground.phase }, { on := 1, ground := Ground.phase }, { on := 2, ground := Ground.phase }, { on := 3, ground := Ground.phase }, { on := 4, ground := Ground.phase }, { on := 5, ground := Ground.phase }, { on := 6, ground := Ground.phase }], guard := none }) (v := .int .i64 (putE (sumOf k.id) k.data M R L : Nat)) rfl (by kernel_rfl) (by kernel_rfl) (by kernel_rfl) (fun _ _ _ h => h) (Or.inl ⟨by rfl, ?hy7_6⟩) (by assumption) ?rest7_6
  case hy7_6 => (intro w hSw; (try dsimp only at hSw); go_split_ands; go_simp; try with_reducible rfl)
  try simp only [Act.put, List.setIfInBounds_toArray, List.set_cons_zero, List.set_cons_succ]
  refine wpAnyH_done (by kernel_rfl) ?_ _
  go_wp2_with fail
  go_ret
  refine ⟨?_, ?_⟩
  · unfold doE
    rw [if_neg (by omega), if_neg (by omega), if_neg (by omega)]
    rfl
  · unfold doL
    rw [if_neg (by omega), if_neg (by omega), if_neg (by omega), if_neg (by omega), if_neg (by omega)]
    exact HF.out
theorem does_put1 (k : DoV) (A : Option Addr) (n c : Nat) (w : World) (h : AtO w0 w O s M R L) (h3 : opN k = 1) (hd : Rd w0 w0.heap.size A n (bv k.data)) (hn : n ≤ 281474976710656) :
    Calls Try.prog 28 #[.pointer (some ⟨s, 0, none⟩), doV k A n c] w (DoPost w0 w O k s M R L) := by
  have q3 : (wrap64 ((IntKind.u64.wrap k.op).tmod 8) == 3) = false := by rw [op_eq, h3]; rfl
  have q4 : (wrap64 ((IntKind.u64.wrap k.op).tmod 8) == 4) = false := by rw [op_eq, h3]; rfl
  have q5 : (wrap64 ((IntKind.u64.wrap k.op).tmod 8) == 5) = false := by rw [op_eq, h3]; rfl
  have q6 : (wrap64 ((IntKind.u64.wrap k.op).tmod 8) == 6) = false := by rw [op_eq, h3]; rfl
  have q7 : (wrap64 ((IntKind.u64.wrap k.op).tmod 8) == 7) = false := by rw [op_eq, h3]; rfl
  have hbb : Below w.heap.size w (w.alloc (.cells #[.int .i64 k.op, .int .i64 k.id, .slice A n c, .int .i64 k.n] 34)) := (Below.refl _ _).alloc (Nat.le_refl _) _
  have HA := Lib.hid (h.below hbb)
  have HBB := Lib.hid hbb
  obtain ⟨SS, hSS⟩ : ∃ SS, (bv (sumOf k.id)).toArray = SS := ⟨_, rfl⟩
  have HSS := Lib.hid hSS
  have HD := Lib.hid hd
  have HO := Lib.hid (fun i hi => (h.2.1 i hi).2 : ∀ i, O i → i < w.heap.size)
  clear hSS h hbb hd
  unfold doV
  go_enter Try.func28, Try.ntmps28
  go_wp2_with fail
  refine wp_region_held_drew (S := fun w' => w'.cell? ⟨w.heap.size, 1, none⟩ = some (.int .i64 k.id) ∧ w'.cell? ⟨w.heap.size, 2, none⟩ = some (.slice A n c)) (by kernel_rfl) (by constructor <;> go_simp) (fun hHeld => ?_)
  replace HA := Lib.hid HA.out.drew
  replace HBB := Lib.hid (below_drew HBB.out)
  have HC := Lib.hid hHeld
  have hsz : w.heap.size < (w.alloc (.cells #[.int .i64 k.op, .int .i64 k.id, .slice A n c, .int .i64 k.n] 34)).drew.heap.size := by show w.heap.size < (w.alloc _).heap.size; simp
  obtain ⟨y0, hy⟩ : ∃ z, (w.alloc (.cells #[.int .i64 k.op, .int .i64 k.id, .slice A n c, .int .i64 k.n] 34)).drew = z := ⟨_, rfl⟩
  rw [hy] at HA HBB HC hHeld hsz ⊢
  have HZ := Lib.hid hsz
  clear hy hsz
  refine wpAnyH_take (i := 0) (oi := { dst := some 12, op := Op.move (Operand.tmp 0), type := 23, pos := "law.go:60", after := #[], guard := none }) (v := .pointer (some ⟨s, 0, none⟩)) rfl (by kernel_rfl) (by kernel_rfl) (by kernel_rfl) (fun _ _ _ h => h) (Or.inl ⟨by rfl, ?hy0_1⟩) (by assumption) ?rest0_1
  case hy0_1 => (intro w hSw; (try dsimp only at hSw); go_split_ands; go_simp; try with_reducible rfl)
  try simp only [Act.put, List.setIfInBounds_toArray, List.set_cons_zero, List.set_cons_succ]
  refine wpAnyH_take (i := 1) (oi := { dst := some 13, op := Op.fieldAddr 34 (Operand.tmp 3) 1, type := 0, pos := "law.go:60", after := #[], guard := none }) (v := .pointer (some ⟨w.heap.size, 1, none⟩)) rfl (by kernel_rfl) (by kernel_rfl) (by kernel_rfl) (fun _ _ _ h => h) (Or.inl ⟨by rfl, ?hy1_2⟩) (by assumption) ?rest1_2
  case hy1_2 => (intro w hSw; (try dsimp only at hSw); go_split_ands; go_simp; try with_reducible rfl)
  try simp only [Act.put, List.setIfInBounds_toArray, List.set_cons_zero, List.set_cons_succ]
  refine wpAnyH_take (i := 2) (oi := { dst := some 14, op := Op.load 3 (Operand.tmp 13), type := 3, pos := "law.go:60", after := #[{ on := 1, ground := Ground.data }], guard := none }) (v := .int .i64 k.id) rfl (by kernel_rfl) (by kernel_rfl) (by kernel_rfl) (fun _ _ _ h => h) (Or.inl ⟨by rfl, ?hy2_3⟩) (by assumption) ?rest2_3
  case hy2_3 => (intro w hSw; (try dsimp only at hSw); go_split_ands; go_simp; try with_reducible rfl)
  try simp only [Act.put, List.setIfInBounds_toArray, List.set_cons_zero, List.set_cons_succ]
  refine wpAnyH_take (i := 4) (oi := { dst := some 16, op := Op.fieldAddr 34 (Operand.tmp 3) 2, type := 0, pos := "law.go:60", after := #[], guard := none }) (v := .pointer (some ⟨w.heap.size, 2, none⟩)) rfl (by kernel_rfl) (by kernel_rfl) (by kernel_rfl) (fun _ _ _ h => h) (Or.inl ⟨by rfl, ?hy4_4⟩) (by assumption) ?rest4_4
  case hy4_4 => (intro w hSw; (try dsimp only at hSw); go_split_ands; go_simp; try with_reducible rfl)
  try simp only [Act.put, List.setIfInBounds_toArray, List.set_cons_zero, List.set_cons_succ]
  refine wpAnyH_take (i := 5) (oi := { dst := some 17, op := Op.load 32 (Operand.tmp 16), type := 32, pos := "law.go:60", after := #[{ on := 4, ground := Ground.data }], guard := none }) (v := .slice A n c) rfl (by kernel_rfl) (by kernel_rfl) (by kernel_rfl) (fun _ _ _ h => h) (Or.inl ⟨by rfl, ?hy5_5⟩) (by assumption) ?rest5_5
  case hy5_5 => (intro w hSw; (try dsimp only at hSw); go_split_ands; go_simp; try with_reducible rfl)
  try simp only [Act.put, List.setIfInBounds_toArray, List.set_cons_zero, List.set_cons_succ]
  refine wpAnyH_ready (rs := [3]) (by kernel_rfl) (by simp) ?_
  refine AllReadyH.cons (o := { dst := some 15, op := Op.call { callee := Callee.value (Operand.func 19), args := #[Operand.tmp 14], argTypes := #[3] }, type := 40, pos := "law.go:60", after := #[{ on := 2, ground := Ground.data }], guard := none }) rfl (fun K hK => ?_) AllReadyH.nil
  go_simp
  refine (sum_of k.id _).mono ?_
  rintro e y1 ⟨rfl, hb⟩
  replace HBB := Lib.hid (HBB.out.trans (hb.mono HBB.out.size))
  replace HA := Lib.hid (HA.out.below hb)
  replace HC := Lib.hid (And.intro ((hb.cell (p := ⟨w.heap.size, 1, none⟩) HZ.out).trans HC.out.1) ((hb.cell (p := ⟨w.heap.size, 2, none⟩) HZ.out).trans HC.out.2))
  replace HZ := Lib.hid (Nat.lt_of_lt_of_le HZ.out hb.size)
  rw [HSS.out]
  clear hb
  go_wp2_with fail
  refine hK.out _ _ HC.out (fun hHeld => ?_)
  clear hK K
  try simp only [Act.put, List.setIfInBounds_toArray, List.set_cons_zero, List.set_cons_succ]
  refine wpAnyH_ready (rs := [6]) (by kernel_rfl) (by simp) ?_
  refine AllReadyH.cons (o := { dst := some 18, op := Op.call { callee := Callee.value (Operand.func 29), args := #[Operand.tmp 12, Operand.tmp 15, Operand.tmp 17], argTypes := #[23, 40, 32] }, type := 24, pos := "law.go:60", after := #[{ on := 0, ground := Ground.data }, { on := 3, ground := Ground.data }, { on := 5, ground := Ground.data }, { on := 3, ground := Ground.chain }], guard := none }) rfl (fun K hK => ?_) AllReadyH.nil
  go_simp
  rw [← HSS.out]
  refine (put_st (sumOf k.id) k.data A n c w0.heap.size y1 (sumOf_len _) HA.out (HD.out.below (HA.out.2.2) (Nat.le_refl _)) (fun i _ hi hO => by have := (HA.out.2.1 i hO).1; omega) HA.out.2.2.size hn).mono ?_
  rintro e y2 ⟨rfl, hst⟩
  have hc2 : y2.cell? ⟨w.heap.size, 1, none⟩ = some (.int .i64 k.id) ∧ y2.cell? ⟨w.heap.size, 2, none⟩ = some (.slice A n c) := by
    obtain ⟨O', _, hk, _⟩ := hst
    have hne : ¬ (O w.heap.size ∨ y1.heap.size ≤ w.heap.size) := fun e => by
      rcases e with e | e
      · exact absurd (HO.out _ e) (by omega)
      · have := HZ.out; omega
    exact ⟨(hk.cell (a := ⟨w.heap.size, 1, none⟩) HZ.out hne).trans HC.out.1, (hk.cell (a := ⟨w.heap.size, 2, none⟩) HZ.out hne).trans HC.out.2⟩
  have HF := Lib.hid (Step.after HBB.out hst)
  clear hst HA HBB HC
  rw [HSS.out]
  go_wp2_with fail
  refine hK.out _ _ hc2 (fun hHeld => ?_)
  clear hK K hc2
  try simp only [Act.put, List.setIfInBounds_toArray, List.set_cons_zero, List.set_cons_succ]
  refine wpAnyH_take (i := 7) (oi := { dst := some 4, op := Op.assign (Operand.tmp 18), type := 24, pos := "law.go:60", after := #[{ on := 6, ground := Ground.data }, { on := 6, ground := Ground.chain }, { on := 0, ground := Ground.phase }, { on := 1, ground := Ground.phase }, { on := 2, ground := Ground.phase }, { on := 3, ground := Ground.phase }, { on := 4, ground := Ground.phase }, { on := 5, ground := Ground.phase }, { on := 6, ground := Ground.phase }], guard := none }) (v := .int .i64 (putE (sumOf k.id) k.data M R L : Nat)) rfl (by kernel_rfl) (by kernel_rfl) (by kernel_rfl) (fun _ _ _ h => h) (Or.inl ⟨by rfl, ?hy7_6⟩) (by assumption) ?rest7_6
  case hy7_6 => (intro w hSw; (try dsimp only at hSw); go_split_ands; go_simp; try with_reducible rfl)
  try simp only [Act.put, List.setIfInBounds_toArray, List.set_cons_zero, List.set_cons_succ]
  refine wpAnyH_done (by kernel_rfl) ?_ _
  go_wp2_with fail
  go_ret
  refine ⟨?_, ?_⟩
  · unfold doE
    rw [if_neg (by omega), if_neg (by omega), if_neg (by omega)]
    rfl
  · unfold doL
    rw [if_neg (by omega), if_neg (by omega), if_neg (by omega), if_neg (by omega), if_neg (by omega)]
    exact HF.out
theorem does_put2 (k : DoV) (A : Option Addr) (n c : Nat) (w : World) (h : AtO w0 w O s M R L) (h3 : opN k = 2) (hd : Rd w0 w0.heap.size A n (bv k.data)) (hn : n ≤ 281474976710656) :
    Calls Try.prog 28 #[.pointer (some ⟨s, 0, none⟩), doV k A n c] w (DoPost w0 w O k s M R L) := by
  have q3 : (wrap64 ((IntKind.u64.wrap k.op).tmod 8) == 3) = false := by rw [op_eq, h3]; rfl
  have q4 : (wrap64 ((IntKind.u64.wrap k.op).tmod 8) == 4) = false := by rw [op_eq, h3]; rfl
  have q5 : (wrap64 ((IntKind.u64.wrap k.op).tmod 8) == 5) = false := by rw [op_eq, h3]; rfl
  have q6 : (wrap64 ((IntKind.u64.wrap k.op).tmod 8) == 6) = false := by rw [op_eq, h3]; rfl
  have q7 : (wrap64 ((IntKind.u64.wrap k.op).tmod 8) == 7) = false := by rw [op_eq, h3]; rfl
  have hbb : Below w.heap.size w (w.alloc (.cells #[.int .i64 k.op, .int .i64 k.id, .slice A n c, .int .i64 k.n] 34)) := (Below.refl _ _).alloc (Nat.le_refl _) _
  have HA := Lib.hid (h.below hbb)
  have HBB := Lib.hid hbb
  obtain ⟨SS, hSS⟩ : ∃ SS, (bv (sumOf k.id)).toArray = SS := ⟨_, rfl⟩
  have HSS := Lib.hid hSS
  have HD := Lib.hid hd
  have HO := Lib.hid (fun i hi => (h.2.1 i hi).2 : ∀ i, O i → i < w.heap.size)
  clear hSS h hbb hd
  unfold doV
  go_enter Try.func28, Try.ntmps28
  go_wp2_with fail
  refine wp_region_held_drew (S := fun w' => w'.cell? ⟨w.heap.size, 1, none⟩ = some (.int .i64 k.id) ∧ w'.cell? ⟨w.heap.size, 2, none⟩ = some (.slice A n c)) (by kernel_rfl) (by constructor <;> go_simp) (fun hHeld => ?_)
  replace HA := Lib.hid HA.out.drew
  replace HBB := Lib.hid (below_drew HBB.out)
  have HC := Lib.hid hHeld
  have hsz : w.heap.size < (w.alloc (.cells #[.int .i64 k.op, .int .i64 k.id, .slice A n c, .int .i64 k.n] 34)).drew.heap.size := by show w.heap.size < (w.alloc _).heap.size; simp
  obtain ⟨y0, hy⟩ : ∃ z, (w.alloc (.cells #[.int .i64 k.op, .int .i64 k.id, .slice A n c, .int .i64 k.n] 34)).drew = z := ⟨_, rfl⟩
  rw [hy] at HA HBB HC hHeld hsz ⊢
  have HZ := Lib.hid hsz
  clear hy hsz
  refine wpAnyH_take (i := 0) (oi := { dst := some 12, op := Op.move (Operand.tmp 0), type := 23, pos := "law.go:60", after := #[], guard := none }) (v := .pointer (some ⟨s, 0, none⟩)) rfl (by kernel_rfl) (by kernel_rfl) (by kernel_rfl) (fun _ _ _ h => h) (Or.inl ⟨by rfl, ?hy0_1⟩) (by assumption) ?rest0_1
  case hy0_1 => (intro w hSw; (try dsimp only at hSw); go_split_ands; go_simp; try with_reducible rfl)
  try simp only [Act.put, List.setIfInBounds_toArray, List.set_cons_zero, List.set_cons_succ]
  refine wpAnyH_take (i := 1) (oi := { dst := some 13, op := Op.fieldAddr 34 (Operand.tmp 3) 1, type := 0, pos := "law.go:60", after := #[], guard := none }) (v := .pointer (some ⟨w.heap.size, 1, none⟩)) rfl (by kernel_rfl) (by kernel_rfl) (by kernel_rfl) (fun _ _ _ h => h) (Or.inl ⟨by rfl, ?hy1_2⟩) (by assumption) ?rest1_2
  case hy1_2 => (intro w hSw; (try dsimp only at hSw); go_split_ands; go_simp; try with_reducible rfl)
  try simp only [Act.put, List.setIfInBounds_toArray, List.set_cons_zero, List.set_cons_succ]
  refine wpAnyH_take (i := 2) (oi := { dst := some 14, op := Op.load 3 (Operand.tmp 13), type := 3, pos := "law.go:60", after := #[{ on := 1, ground := Ground.data }], guard := none }) (v := .int .i64 k.id) rfl (by kernel_rfl) (by kernel_rfl) (by kernel_rfl) (fun _ _ _ h => h) (Or.inl ⟨by rfl, ?hy2_3⟩) (by assumption) ?rest2_3
  case hy2_3 => (intro w hSw; (try dsimp only at hSw); go_split_ands; go_simp; try with_reducible rfl)
  try simp only [Act.put, List.setIfInBounds_toArray, List.set_cons_zero, List.set_cons_succ]
  refine wpAnyH_take (i := 4) (oi := { dst := some 16, op := Op.fieldAddr 34 (Operand.tmp 3) 2, type := 0, pos := "law.go:60", after := #[], guard := none }) (v := .pointer (some ⟨w.heap.size, 2, none⟩)) rfl (by kernel_rfl) (by kernel_rfl) (by kernel_rfl) (fun _ _ _ h => h) (Or.inl ⟨by rfl, ?hy4_4⟩) (by assumption) ?rest4_4
  case hy4_4 => (intro w hSw; (try dsimp only at hSw); go_split_ands; go_simp; try with_reducible rfl)
  try simp only [Act.put, List.setIfInBounds_toArray, List.set_cons_zero, List.set_cons_succ]
  refine wpAnyH_take (i := 5) (oi := { dst := some 17, op := Op.load 32 (Operand.tmp 16), type := 32, pos := "law.go:60", after := #[{ on := 4, ground := Ground.data }], guard := none }) (v := .slice A n c) rfl (by kernel_rfl) (by kernel_rfl) (by kernel_rfl) (fun _ _ _ h => h) (Or.inl ⟨by rfl, ?hy5_5⟩) (by assumption) ?rest5_5
  case hy5_5 => (intro w hSw; (try dsimp only at hSw); go_split_ands; go_simp; try with_reducible rfl)
  try simp only [Act.put, List.setIfInBounds_toArray, List.set_cons_zero, List.set_cons_succ]
  refine wpAnyH_ready (rs := [3]) (by kernel_rfl) (by simp) ?_
  refine AllReadyH.cons (o := { dst := some 15, op := Op.call { callee := Callee.value (Operand.func 19), args := #[Operand.tmp 14], argTypes := #[3] }, type := 40, pos := "law.go:60", after := #[{ on := 2, ground := Ground.data }], guard := none }) rfl (fun K hK => ?_) AllReadyH.nil
  go_simp
  refine (sum_of k.id _).mono ?_
  rintro e y1 ⟨rfl, hb⟩
  replace HBB := Lib.hid (HBB.out.trans (hb.mono HBB.out.size))
  replace HA := Lib.hid (HA.out.below hb)
  replace HC := Lib.hid (And.intro ((hb.cell (p := ⟨w.heap.size, 1, none⟩) HZ.out).trans HC.out.1) ((hb.cell (p := ⟨w.heap.size, 2, none⟩) HZ.out).trans HC.out.2))
  replace HZ := Lib.hid (Nat.lt_of_lt_of_le HZ.out hb.size)
  rw [HSS.out]
  clear hb
  go_wp2_with fail
  refine hK.out _ _ HC.out (fun hHeld => ?_)
  clear hK K
  try simp only [Act.put, List.setIfInBounds_toArray, List.set_cons_zero, List.set_cons_succ]
  refine wpAnyH_ready (rs := [6]) (by kernel_rfl) (by simp) ?_
  refine AllReadyH.cons (o := { dst := some 18, op := Op.call { callee := Callee.value (Operand.func 29), args := #[Operand.tmp 12, Operand.tmp 15, Operand.tmp 17], argTypes := #[23, 40, 32] }, type := 24, pos := "law.go:60", after := #[{ on := 0, ground := Ground.data }, { on := 3, ground := Ground.data }, { on := 5, ground := Ground.data }, { on := 3, ground := Ground.chain }], guard := none }) rfl (fun K hK => ?_) AllReadyH.nil
  go_simp
  rw [← HSS.out]
  refine (put_st (sumOf k.id) k.data A n c w0.heap.size y1 (sumOf_len _) HA.out (HD.out.below (HA.out.2.2) (Nat.le_refl _)) (fun i _ hi hO => by have := (HA.out.2.1 i hO).1; omega) HA.out.2.2.size hn).mono ?_
  rintro e y2 ⟨rfl, hst⟩
  have hc2 : y2.cell? ⟨w.heap.size, 1, none⟩ = some (.int .i64 k.id) ∧ y2.cell? ⟨w.heap.size, 2, none⟩ = some (.slice A n c) := by
    obtain ⟨O', _, hk, _⟩ := hst
    have hne : ¬ (O w.heap.size ∨ y1.heap.size ≤ w.heap.size) := fun e => by
      rcases e with e | e
      · exact absurd (HO.out _ e) (by omega)
      · have := HZ.out; omega
    exact ⟨(hk.cell (a := ⟨w.heap.size, 1, none⟩) HZ.out hne).trans HC.out.1, (hk.cell (a := ⟨w.heap.size, 2, none⟩) HZ.out hne).trans HC.out.2⟩
  have HF := Lib.hid (Step.after HBB.out hst)
  clear hst HA HBB HC
  rw [HSS.out]
  go_wp2_with fail
  refine hK.out _ _ hc2 (fun hHeld => ?_)
  clear hK K hc2
  try simp only [Act.put, List.setIfInBounds_toArray, List.set_cons_zero, List.set_cons_succ]
  refine wpAnyH_take (i := 7) (oi := { dst := some 4, op := Op.assign (Operand.tmp 18), type := 24, pos := "law.go:60", after := #[{ on := 6, ground := Ground.data }, { on := 6, ground := Ground.chain }, { on := 0, ground := Ground.phase }, { on := 1, ground := Ground.phase }, { on := 2, ground := Ground.phase }, { on := 3, ground := Ground.phase }, { on := 4, ground := Ground.phase }, { on := 5, ground := Ground.phase }, { on := 6, ground := Ground.phase }], guard := none }) (v := .int .i64 (putE (sumOf k.id) k.data M R L : Nat)) rfl (by kernel_rfl) (by kernel_rfl) (by kernel_rfl) (fun _ _ _ h => h) (Or.inl ⟨by rfl, ?hy7_6⟩) (by assumption) ?rest7_6
  case hy7_6 => (intro w hSw; (try dsimp only at hSw); go_split_ands; go_simp; try with_reducible rfl)
  try simp only [Act.put, List.setIfInBounds_toArray, List.set_cons_zero, List.set_cons_succ]
  refine wpAnyH_done (by kernel_rfl) ?_ _
  go_wp2_with fail
  go_ret
  refine ⟨?_, ?_⟩
  · unfold doE
    rw [if_neg (by omega), if_neg (by omega), if_neg (by omega)]
    rfl
  · unfold doL
    rw [if_neg (by omega), if_neg (by omega), if_neg (by omega), if_neg (by omega), if_neg (by omega)]
    exact HF.out
theorem does_any (k : DoV) (A : Option Addr) (n c : Nat) (w : World) (h : AtO w0 w O s M R L) (hh : ∀ e ∈ L, e.held < 4611686018427387904) (hd : Rd w0 w0.heap.size A n (bv k.data)) (hn : n ≤ 281474976710656) :
    Calls Try.prog 28 #[.pointer (some ⟨s, 0, none⟩), doV k A n c] w (DoPost w0 w O k s M R L) := by
  have h8 := opN_lt k
  rcases (by omega : opN k = 0 ∨ opN k = 1 ∨ opN k = 2 ∨ opN k = 3 ∨ opN k = 4 ∨ opN k = 5 ∨ opN k = 6 ∨ opN k = 7) with e | e | e | e | e | e | e | e
  · exact does_put0 k A n c w h e hd hn
  · exact does_put1 k A n c w h e hd hn
  · exact does_put2 k A n c w h e hd hn
  · exact does_get k A n c w h e
  · exact does_pin k A n c w h e hh
  · exact does_unpin k A n c w h e hh
  · exact does_evict k A n c w h e
  · exact does_wipe k A n c w h e
end Go.Proofs.Ytnmifaohmafobaa.st
