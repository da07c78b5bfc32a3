/- Contracts of packet's has, Takes, Back. -/
import Derived.Test.YtjpdamighffgfaaPkK
import Derived.Laws.Bits64
namespace Go.Proofs.Ytjpdamighffgfaa.pk
open Go.RowKit Mem SM lib sum PM
set_option linter.unusedVariables false
/-- a bit of a number of 64 bits with its sign -/
def fl (f : Int) (j : Nat) : Bool := (f % 18446744073709551616).toNat.testBit j
theorem and_pow (n i : Nat) : n &&& 2 ^ i = if n.testBit i then 2 ^ i else 0 := by
  apply Nat.eq_of_testBit_eq
  intro k
  rw [Nat.testBit_and, Nat.testBit_two_pow]
  by_cases h : i = k
  · subst h
    cases hb : n.testBit i
    · simp
    · simp
  · cases hb : n.testBit i
    · simp [h]
    · simp [h]
theorem and1 (f : Int) : bits BinOp.and IntKind.i64 f 1 = if fl f 0 then 1 else 0 := by
  have h8 : (BitVec.ofInt 64 1).toNat = 2 ^ 0 := by decide
  have key : (BitVec.ofInt 64 f &&& BitVec.ofInt 64 1).toNat = (f % ((2 ^ 64 : Nat) : Int)).toNat &&& 2 ^ 0 := by
    rw [BitVec.toNat_and, BitVec.toNat_ofInt, h8]
  show IntKind.i64.wrap ((BitVec.ofInt 64 f &&& BitVec.ofInt 64 1).toNat : Nat) = _
  rw [key, and_pow]
  unfold fl
  have e : (f % ((2 ^ 64 : Nat) : Int)).toNat = (f % 18446744073709551616).toNat := rfl
  rw [e]
  cases (f % 18446744073709551616).toNat.testBit 0 <;> decide
theorem and2 (f : Int) : bits BinOp.and IntKind.i64 f 2 = if fl f 1 then 2 else 0 := by
  have h8 : (BitVec.ofInt 64 2).toNat = 2 ^ 1 := by decide
  have key : (BitVec.ofInt 64 f &&& BitVec.ofInt 64 2).toNat = (f % ((2 ^ 64 : Nat) : Int)).toNat &&& 2 ^ 1 := by
    rw [BitVec.toNat_and, BitVec.toNat_ofInt, h8]
  show IntKind.i64.wrap ((BitVec.ofInt 64 f &&& BitVec.ofInt 64 2).toNat : Nat) = _
  rw [key, and_pow]
  unfold fl
  have e : (f % ((2 ^ 64 : Nat) : Int)).toNat = (f % 18446744073709551616).toNat := rfl
  rw [e]
  cases (f % 18446744073709551616).toNat.testBit 1 <;> decide
theorem and4 (f : Int) : bits BinOp.and IntKind.i64 f 4 = if fl f 2 then 4 else 0 := by
  have h8 : (BitVec.ofInt 64 4).toNat = 2 ^ 2 := by decide
  have key : (BitVec.ofInt 64 f &&& BitVec.ofInt 64 4).toNat = (f % ((2 ^ 64 : Nat) : Int)).toNat &&& 2 ^ 2 := by
    rw [BitVec.toNat_and, BitVec.toNat_ofInt, h8]
  show IntKind.i64.wrap ((BitVec.ofInt 64 f &&& BitVec.ofInt 64 4).toNat : Nat) = _
  rw [key, and_pow]
  unfold fl
  have e : (f % ((2 ^ 64 : Nat) : Int)).toNat = (f % 18446744073709551616).toNat := rfl
  rw [e]
  cases (f % 18446744073709551616).toNat.testBit 2 <;> decide
theorem and8 (f : Int) : bits BinOp.and IntKind.i64 f 8 = if fl f 3 then 8 else 0 := by
  have h8 : (BitVec.ofInt 64 8).toNat = 2 ^ 3 := by decide
  have key : (BitVec.ofInt 64 f &&& BitVec.ofInt 64 8).toNat = (f % ((2 ^ 64 : Nat) : Int)).toNat &&& 2 ^ 3 := by
    rw [BitVec.toNat_and, BitVec.toNat_ofInt, h8]
  show IntKind.i64.wrap ((BitVec.ofInt 64 f &&& BitVec.ofInt 64 8).toNat : Nat) = _
  rw [key, and_pow]
  unfold fl
  have e : (f % ((2 ^ 64 : Nat) : Int)).toNat = (f % 18446744073709551616).toNat := rfl
  rw [e]
  cases (f % 18446744073709551616).toNat.testBit 3 <;> decide
def takes (p : Pk) : Int := (p.data.length : Int) + (if fl p.flags 0 then 1 else 0) + (if fl p.flags 2 then 1 else 0)
theorem has1_any (p : Pk) (A : Option Addr) (n c : Nat) (w : World) :
    Calls Try.prog 44 #[pkV p A n c, .int .i64 1] w fun e w' => e = .returned (.bool (fl p.flags 0)) ∧ Below w.heap.size w w' := by
  unfold pkV
  have ha := and1 p.flags
  cases hf : fl p.flags 0
  · rw [hf] at ha
    have ha2 : bits BinOp.and IntKind.i64 p.flags 1 = 0 := ha
    clear ha hf
    go_enter Try.func44, Try.ntmps44
    go_wp2
    go_ret
    exact ⟨rfl, (Below.refl _ _).alloc (Nat.le_refl _) _⟩
  · rw [hf] at ha
    have ha2 : bits BinOp.and IntKind.i64 p.flags 1 = 1 := ha
    clear ha hf
    go_enter Try.func44, Try.ntmps44
    go_wp2
    go_ret
    exact ⟨rfl, (Below.refl _ _).alloc (Nat.le_refl _) _⟩
theorem has2_any (p : Pk) (A : Option Addr) (n c : Nat) (w : World) :
    Calls Try.prog 44 #[pkV p A n c, .int .i64 2] w fun e w' => e = .returned (.bool (fl p.flags 1)) ∧ Below w.heap.size w w' := by
  unfold pkV
  have ha := and2 p.flags
  cases hf : fl p.flags 1
  · rw [hf] at ha
    have ha2 : bits BinOp.and IntKind.i64 p.flags 2 = 0 := ha
    clear ha hf
    go_enter Try.func44, Try.ntmps44
    go_wp2
    go_ret
    exact ⟨rfl, (Below.refl _ _).alloc (Nat.le_refl _) _⟩
  · rw [hf] at ha
    have ha2 : bits BinOp.and IntKind.i64 p.flags 2 = 2 := ha
    clear ha hf
    go_enter Try.func44, Try.ntmps44
    go_wp2
    go_ret
    exact ⟨rfl, (Below.refl _ _).alloc (Nat.le_refl _) _⟩
theorem has4_any (p : Pk) (A : Option Addr) (n c : Nat) (w : World) :
    Calls Try.prog 44 #[pkV p A n c, .int .i64 4] w fun e w' => e = .returned (.bool (fl p.flags 2)) ∧ Below w.heap.size w w' := by
  unfold pkV
  have ha := and4 p.flags
  cases hf : fl p.flags 2
  · rw [hf] at ha
    have ha2 : bits BinOp.and IntKind.i64 p.flags 4 = 0 := ha
    clear ha hf
    go_enter Try.func44, Try.ntmps44
    go_wp2
    go_ret
    exact ⟨rfl, (Below.refl _ _).alloc (Nat.le_refl _) _⟩
  · rw [hf] at ha
    have ha2 : bits BinOp.and IntKind.i64 p.flags 4 = 4 := ha
    clear ha hf
    go_enter Try.func44, Try.ntmps44
    go_wp2
    go_ret
    exact ⟨rfl, (Below.refl _ _).alloc (Nat.le_refl _) _⟩
theorem has8_any (p : Pk) (A : Option Addr) (n c : Nat) (w : World) :
    Calls Try.prog 44 #[pkV p A n c, .int .i64 8] w fun e w' => e = .returned (.bool (fl p.flags 3)) ∧ Below w.heap.size w w' := by
  unfold pkV
  have ha := and8 p.flags
  cases hf : fl p.flags 3
  · rw [hf] at ha
    have ha2 : bits BinOp.and IntKind.i64 p.flags 8 = 0 := ha
    clear ha hf
    go_enter Try.func44, Try.ntmps44
    go_wp2
    go_ret
    exact ⟨rfl, (Below.refl _ _).alloc (Nat.le_refl _) _⟩
  · rw [hf] at ha
    have ha2 : bits BinOp.and IntKind.i64 p.flags 8 = 8 := ha
    clear ha hf
    go_enter Try.func44, Try.ntmps44
    go_wp2
    go_ret
    exact ⟨rfl, (Below.refl _ _).alloc (Nat.le_refl _) _⟩
set_option maxHeartbeats 4000000 in
theorem takes_any (p : Pk) (A : Option Addr) (n c : Nat) (w : World) (hn : n = p.data.length) (hnb : n ≤ 1099511627776) :
    Calls Try.prog 25 #[pkV p A n c] w fun e w' => e = .returned (.int .i64 (takes p)) ∧ Below w.heap.size w w' := by
  obtain ⟨W, hW⟩ : ∃ W, W = w.alloc (pkO p A n c) := ⟨_, rfl⟩
  obtain ⟨g, hg⟩ : ∃ g, g = w.heap.size := ⟨_, rfl⟩
  have hP : PkAt W g p A n c := by rw [hW, hg]; exact PkAt.new _ _ _ _ _
  have hs : W.heap.size = g + 1 := by rw [hW, hg]; simp
  have hb0 : Below w.heap.size w W := by rw [hW]; exact (Below.refl _ _).alloc (Nat.le_refl _) _
  have HP := Lib.hid hP
  have HW := Lib.hid hW
  have Hg := Lib.hid hg
  have HS := Lib.hid hs
  have hT : takes p = (n : Int) + (if fl p.flags 0 then 1 else 0) + (if fl p.flags 2 then 1 else 0) := by unfold takes; rw [hn]
  have HT := Lib.hid hT
  obtain ⟨c0, c1, c2, c3, c4, c5, c6, c7, c8, c9, c10⟩ := hP
  clear hW hg hn hs hT
  unfold pkV
  have h1 := has1_any p A n c
  have h4 := has4_any p A n c
  cases f0 : fl p.flags 0 <;> cases f2 : fl p.flags 2
  all_goals
    rw [f0] at h1
    rw [f2] at h4
    have F0 := Lib.hid f0
    have F2 := Lib.hid f2
    have H1 := Lib.hid h1
    have H4 := Lib.hid h4
    clear f0 f2 h1 h4
    go_enter Try.func25, Try.ntmps25
    go_upto_region 1 with fail
    have hW2 : w.alloc (.cells #[.int .i64 p.src, .int .i64 p.dst, .int .i64 p.sport, .int .i64 p.dport, .int .u32 p.seq, .int .u32 p.ack, .int .i64 p.flags, .int .i64 p.window, .int .i64 p.probe, .int .i64 p.origin, .slice A n c] 25) = W := HW.out.symm
    rw [hW2, ← Hg.out]
    clear hW2
    go_wp2_with fail
    refine (H1.out W).mono ?_
    rintro e w1 ⟨rfl, hb1⟩
    have hk1 : Below W.heap.size W w1 := hb1
    clear c0 c1 c2 c3 c4 c5 c6 c7 c8 c9 c10
    obtain ⟨c0, c1, c2, c3, c4, c5, c6, c7, c8, c9, c10⟩ := HP.out.below hb1 (by rw [HS.out]; omega)
    go_wp2_with fail
    refine (H4.out w1).mono ?_
    rintro e w2 ⟨rfl, hb2⟩
    go_wp2_with fail
    go_ret
    exact ⟨ret_int (by rw [HT.out, F0.out, F2.out]; simp), hb0.trans ((hb1.mono hb0.size).trans (hb2.mono (Nat.le_trans hb0.size hb1.size)))⟩
def backP (p : Pk) : Pk := ⟨p.dst, p.src, p.dport, p.sport, 0, 0, 0, 0, 0, 0, []⟩
theorem back_any (p : Pk) (A : Option Addr) (n c : Nat) (w : World) :
    Calls Try.prog 27 #[pkV p A n c] w fun e w' => e = .returned (pkV (backP p) none 0 0) ∧ Below w.heap.size w w' := by
  unfold pkV
  go_enter Try.func27, Try.ntmps27
  go_wp2
  refine bodyPost_ret (v := .agg #[.int .i64 p.dst, .int .i64 p.src, .int .i64 p.dport, .int .i64 p.sport, .int .u32 0, .int .u32 0, .int .i64 0, .int .i64 0, .int .i64 0, .int .i64 0, .slice none 0 0]) (by simp [results, Try.results27, go_sem]) rfl ⟨rfl, ?_⟩
  exact ((Below.refl _ _).alloc (Nat.le_refl _) _).alloc (by simp) _
end Go.Proofs.Ytjpdamighffgfaa.pk
