/- record: the bytes that a record has in itself. -/
import Derived.Test.YtbcgnacfhpahkaaDoorRcE
namespace Go.Proofs.YtbcgnacfhpahkaaDoor.rc
set_option maxRecDepth 20000
open Go.RowKit Mem OM LM
set_option linter.unusedVariables false
attribute [local go_sem] Oper.semAt_some
def carR (K S : Int) (x : List UInt8) : List UInt8 × Nat := if K = 2 then (x, 0) else if (reB x S).2 ≠ 0 ∨ ¬ ((reB x S).1.length : Int) = S then ([], 100) else ((reB x S).1, 0)
/-- what a call leaves that answers bytes and an error -/
def MadeE (w : World) (r : List UInt8 × Nat) (e : Ending) (w' : World) : Prop := ∃ A N c, e = .returned (.tuple #[.slice A N c, .int .i64 (r.2 : Nat)]) ∧ Ow w' w.heap.size 5 A N c (bv r.1) ∧ Below w.heap.size w w'
set_option maxHeartbeats 2000000 in
theorem carried_any (K S : Int) (d : List UInt8) (hd : d.length = 32) (A : Option Addr) (n c B : Nat) (x : List UInt8) (w : World) (h : Rd w B A n (bv x)) (hB : B ≤ w.heap.size) (hn : n ≤ 1048576) (hS : -9223372036854775808 ≤ S ∧ S ≤ 9223372036854775807) :
    Calls Tryd.prog 39 #[.agg (recL K S d A n c).toArray] w (MadeE w (carR K S x)) := by
  obtain ⟨c0, c1, c34⟩ := rec_box w K S d hd A n c 26
  have hb : Below w.heap.size w (w.alloc (.cells (recL K S d A n c).toArray 26)) := (Below.refl _ _).alloc (Nat.le_refl _) _
  obtain ⟨W, hW⟩ : ∃ W, w.alloc (.cells (recL K S d A n c).toArray 26) = W := ⟨_, rfl⟩
  obtain ⟨X, hX⟩ : ∃ X, (recL K S d A n c).toArray = X := ⟨_, rfl⟩
  rw [hX] at hW ⊢
  rw [hX, hW] at c0 c1 c34 hb
  have hr := h.below (hb.mono hB) (Nat.le_refl _)
  have hbs := hb.size
  unfold MadeE
  by_cases k2 : K = 2
  · have hcl := bclone_any A n c B x W hr (Nat.le_trans hB hbs) (by omega)
    have HCL := Lib.hid hcl
    rw [show carR K S x = (x, 0) from if_pos k2]
    subst k2
    clear hcl
    go_enter Tryd.func39, Tryd.ntmps39
    go_upto_region 1 with fail
    try rw [hW]
    go_wp2_with (go_at_call 36; refine (HCL.out).mono ?_; rintro e w2 ⟨A', N', c', rfl, ho, hb2⟩)
    go_ret2
    exact ⟨A', N', c', rfl, ho.base hbs, hb.trans (hb2.mono hbs)⟩
  · have hre := lz.restore_any A n c B x S W hr (Nat.le_trans hB hbs) hn hS
    unfold lz.RePost at hre
    have hk2 : (K == 2) = false := beq_eq_false_iff_ne.2 k2
    by_cases he : (reB x S).2 = 0
    · by_cases hl : ((reB x S).1.length : Int) = S
      · rw [show carR K S x = ((reB x S).1, 0) by unfold carR; rw [if_neg k2, if_neg (by intro q; rcases q with q | q; exact q he; exact q hl)]]
        rw [he] at hre
        have HRE := Lib.hid hre
        have HL := Lib.hid hl
        clear hre he hl
        go_enter Tryd.func39, Tryd.ntmps39
        go_upto_region 1 with fail
        try rw [hW]
        go_wp2_with (go_at_call 63; refine (HRE.out).mono ?_; rintro e w2 ⟨A', N', c', rfl, ho, hb2⟩; have hN : ((N' : Int) == S) = true := (by have h1 := ho.len; rw [bv_len] at h1; have := HL.out; simp; omega); have hc1 := (hb2.cell (p := ⟨w.heap.size, 1, none⟩) (cell_lt c1)).trans c1)
        go_ret2
        exact ⟨A', N', c', rfl, ho.base hbs, hb.trans (hb2.mono hbs)⟩
      · rw [show carR K S x = ([], 100) by unfold carR; rw [if_neg k2, if_pos (Or.inr hl)]]
        rw [he] at hre
        have HRE := Lib.hid hre
        have HL := Lib.hid hl
        clear hre he hl
        go_enter Tryd.func39, Tryd.ntmps39
        go_upto_region 1 with fail
        try rw [hW]
        go_wp2_with (go_at_call 63; refine (HRE.out).mono ?_; rintro e w2 ⟨A', N', c', rfl, ho, hb2⟩; have hN : ((N' : Int) == S) = false := (by have h1 := ho.len; rw [bv_len] at h1; have := HL.out; simp; omega); have hc1 := (hb2.cell (p := ⟨w.heap.size, 1, none⟩) (cell_lt c1)).trans c1)
        go_ret2
        exact ⟨none, 0, 0, rfl, Ow.nil _ _ _, hb.trans (hb2.mono hbs)⟩
    · rw [show carR K S x = ([], 100) by unfold carR; rw [if_neg k2, if_pos (Or.inl he)]]
      obtain ⟨er, her⟩ : ∃ er, (reB x S).2 = er := ⟨_, rfl⟩
      rw [her] at hre he
      have hei : ((er : Int) == 0) = false := beq_eq_false_iff_ne.2 (by omega)
      have HRE := Lib.hid hre
      clear hre her
      go_enter Tryd.func39, Tryd.ntmps39
      go_upto_region 1 with fail
      try rw [hW]
      go_wp2_with (go_at_call 63; refine (HRE.out).mono ?_; rintro e w2 ⟨A', N', c', rfl, ho, hb2⟩)
      go_ret2
      exact ⟨none, 0, 0, rfl, Ow.nil _ _ _, hb.trans (hb2.mono hbs)⟩
end Go.Proofs.YtbcgnacfhpahkaaDoor.rc
