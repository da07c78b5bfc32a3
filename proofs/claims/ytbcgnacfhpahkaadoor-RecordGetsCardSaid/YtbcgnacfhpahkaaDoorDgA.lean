/- Contracts of digest's small calls: a word turned, a word read, a word laid. -/
import Derived.Test.YtbcgnacfhpahkaaDoorRows
import Derived.Test.YtbcgnacfhpahkaaDoorMem
import Derived.Test.YtbcgnacfhpahkaaDoorDgMath
namespace Go.Proofs.YtbcgnacfhpahkaaDoor.dg
open Go.RowKit Mem DM
set_option linter.unusedVariables false
theorem u8ty : Ty1 Tryd.prog 24 5 (.int .u8 0) 1 :=
  ⟨Tryd.underlying24, by
    have h : (Tryd.prog.info? 5).map (fun i => (i.zero, i.size, i.bytes)) = some (some (.int .u8 0), 1, 1) := by kernel_rfl
    obtain ⟨i, h1, h2, h3, h4⟩ := info_parts h
    exact ⟨i, h1, h2, h3, h4⟩, rfl⟩
/-- a word as a value -/
def wv (x : UInt32) : Value := .int .u32 (x.toNat : Int)
theorem rr_nat (x : UInt32) (n : Nat) (h1 : 1 ≤ n) (h2 : n ≤ 31) : (rr x n).toNat = ((x.toNat * 2 ^ (32 - n)) % 4294967296 ||| x.toNat / 2 ^ n) := by
  have hx := x.toNat_lt
  unfold rr
  have ha : (x.toNat * 2 ^ (32 - n)) % 4294967296 < 2 ^ 32 := Nat.mod_lt _ (by decide)
  have hb : x.toNat / 2 ^ n < 2 ^ 32 := Nat.lt_of_le_of_lt (Nat.div_le_self _ _) hx
  have := Nat.or_lt_two_pow ha hb
  rw [UInt32.toNat_ofNat', Nat.mod_eq_of_lt this]
theorem wrap_u32 (n : Int) : IntKind.u32.wrap n = n % 4294967296 := by simp [IntKind.wrap, IntKind.signed, IntKind.bits]
theorem rotate_any (x : UInt32) (n : Nat) (h1 : 1 ≤ n) (h2 : n ≤ 31) (w : World) :
    Calls Tryd.prog 96 #[wv x, .int .i64 (-(n : Int))] w fun e w' => e = .returned (wv (rr x n)) ∧ w = w' := by
  have hx := x.toNat_lt
  have hs : bits BinOp.and IntKind.u64 (IntKind.u64.wrap (-(n : Int))) 31 = ((32 - n : Nat) : Int) := by
    have key : ∀ n : Fin 31, bits BinOp.and IntKind.u64 (IntKind.u64.wrap (-((n.val + 1 : Nat) : Int))) 31 = ((32 - (n.val + 1) : Nat) : Int) := by decide +kernel
    have := key ⟨n - 1, by omega⟩
    simp only at this
    rw [show n - 1 + 1 = n by omega] at this
    exact this
  have hr := rr_nat x n h1 h2
  have ha : (x.toNat * 2 ^ (32 - n)) % 4294967296 < 4294967296 := Nat.mod_lt _ (by decide)
  have hb : x.toNat / 2 ^ n < 4294967296 := Nat.lt_of_le_of_lt (Nat.div_le_self _ _) hx
  have ho := u32_or_nat _ _ ha hb
  rw [← hr] at ho
  unfold wv
  obtain ⟨X, hX⟩ : ∃ X, x.toNat = X := ⟨_, rfl⟩
  obtain ⟨Y, hY⟩ : ∃ Y, (rr x n).toNat = Y := ⟨_, rfl⟩
  rw [hX] at ho hx ⊢
  rw [hY] at ho ⊢
  have HO := Lib.hid ho
  clear ho hr ha hb hX hY
  go_enter Tryd.func96, Tryd.ntmps96
  go_wp2_with fail
  go_ret
  have ho := HO.out
  rw [show 32 - (32 - n) = n by omega]
  have e1 : (((X * 2 ^ (32 - n)) % 4294967296 : Nat) : Int) = (X : Int) * 2 ^ (32 - n) % 4294967296 := by rw [Int.natCast_emod, Int.natCast_mul, Int.natCast_pow]; rfl
  have e2 : ((X / 2 ^ n : Nat) : Int) = (X : Int) / 2 ^ n := by rw [Int.natCast_ediv, Int.natCast_pow]; rfl
  rw [e1, e2] at ho
  exact ⟨congrArg (fun z => Ending.returned (Value.int IntKind.u32 z)) ho, rfl⟩
theorem right_any (x : UInt32) (n : Nat) (h1 : 1 ≤ n) (h2 : n ≤ 31) (w : World) :
    Calls Tryd.prog 90 #[wv x, .int .i64 (n : Int)] w fun e w' => e = .returned (wv (rr x n)) ∧ w = w' := by
  have h := rotate_any x n h1 h2 w
  unfold wv at *
  generalize rr x n = y at *
  generalize x.toNat = X at *
  generalize y.toNat = Y at *
  obtain ⟨m, hm⟩ : ∃ m : Int, m = (n : Int) := ⟨_, rfl⟩
  have hw : IntKind.i64.wrap (-m) = -m := by rw [IntKind.wrap_i64]; first | omega | (unfold wrap64; omega)
  rw [← hm] at h ⊢
  have H := Lib.hid h
  clear h h1 h2 hm
  go_enter Tryd.func90, Tryd.ntmps90
  go_wp2_with (go_at_call 96; refine H.out.mono ?_; rintro e w' ⟨rfl, rfl⟩)
  go_ret
  exact ⟨rfl, rfl⟩
theorem wd_snoc (l : List UInt8) (x : UInt8) : wd (l ++ [x]) = 256 * wd l + x.toNat := by simp [wd, List.foldl_append]
theorem wd_take (l : List UInt8) (k : Nat) (h : k < l.length) : wd (l.take (k + 1)) = 256 * wd (l.take k) + (l[k]).toNat := by
  rw [← List.take_append_getElem h, wd_snoc]
theorem wd_lt (l : List UInt8) : ∀ k, k ≤ l.length → wd (l.take k) < 256 ^ k
  | 0, _ => by simp [wd]
  | k + 1, h => by
    rw [wd_take l k (by omega)]
    have := wd_lt l k (by omega)
    have := (l[k]'(by omega)).toNat_lt
    rw [Nat.pow_succ]
    omega
/-- the word at the beginning of bytes -/
def word0 (l : List UInt8) : UInt32 := UInt32.ofNat (wd (l.take 4))
theorem or_u32 (m x : Nat) (hm : m < 16777216) (hx : x < 256) : bits BinOp.or IntKind.u32 ((m : Int) * 256) (x : Int) = (m : Int) * 256 + (x : Int) := by
  have e : ((m : Int) * 256) = ((2 ^ 8 * m : Nat) : Int) := by simp; omega
  rw [e, u32_or_nat _ _ (by omega) (by omega), ← Nat.two_pow_add_eq_or_of_lt (i := 8) (by omega) m]
  simp
theorem get_any (A : Option Addr) (n c B : Nat) (l : List UInt8) (w : World) (h : Rd w B A n (bv l)) (hn : 4 ≤ n) (hc : n ≤ c) :
    Calls Tryd.prog 91 #[.slice A n c] w fun e w' => e = .returned (wv (word0 l)) ∧ w = w' := by
  have hl : l.length = n := by rw [← bv_len, h.len]
  have hcut := h.cut (l := 0) (m := 4) (by omega) (A' := A) (fun _ => by cases A <;> simp [Addr.add])
  rw [List.drop_zero, ← bv_take] at hcut
  obtain ⟨L, hL⟩ : ∃ L, l.take 4 = L := ⟨_, rfl⟩
  have hw0 : word0 l = UInt32.ofNat (wd L) := by rw [← hL]; rfl
  have hLl : L.length = 4 := by rw [← hL, List.length_take, hl]; omega
  rw [hL] at hcut
  obtain ⟨b1, o1, rfl, _, hc1⟩ := hcut.addr (by omega)
  have HW := Lib.hid hw0
  have HLL := Lib.hid hLl
  have hwl := wd_lt L
  clear hw0 hL hl h hcut
  unfold wv
  have g1 : (4 : Int) ≤ (n : Int) := by omega
  have g2 : (4 : Int) ≤ (c : Int) := by omega
  have g3 : 4 ≤ c := by omega
  go_enter Tryd.func91, Tryd.ntmps91
  go_wp2_with fail
  go_loop [3, 5, 9] (fun x _ i => ∃ m j : Nat, x = .int .u32 m ∧ i = .int .i64 j ∧ j ≤ 4 ∧ Hid (m = wd (L.take j))) (fun _ _ i => 4 - (intOf i).toNat)
  case atStart => exact ⟨0, 0, rfl, rfl, by omega, Lib.hid rfl⟩
  case round =>
    obtain ⟨m, j, rfl, rfl, hj, Hm⟩ := hrel
    by_cases hlt : j < 4
    · have hjl : j < L.length := by rw [HLL.out]; exact hlt
      have hcj := hc1 j hlt
      rw [bv_at L j hjl] at hcj
      obtain ⟨z, hz⟩ : ∃ z, z = (L[j]).toNat := ⟨_, rfl⟩
      have hz8 : z < 256 := by rw [hz]; exact UInt8.toNat_lt _
      have hs : wd (L.take (j + 1)) = 256 * m + z := by rw [wd_take L j hjl, ← Hm.out, hz]
      rw [← hz] at hcj
      have hm : m < 16777216 := by
        rw [Hm.out]
        refine Nat.lt_of_lt_of_le (hwl j (by omega)) (Nat.le_trans (Nat.pow_le_pow_right (by omega) (show j ≤ 3 by omega)) (by decide))
      have HSS := Lib.hid hs
      clear hs hz hc1
      have hor := or_u32 m z hm hz8
      have hk1 : (j : Int) < 4 := by omega
      go_wp2_with fail
      go_round
      case rel => exact ⟨256 * m + z, j + 1, by simp; omega, by go_num, by omega, Lib.hid HSS.out.symm⟩
      case measure => simp [intOf]; omega
    · obtain rfl : j = 4 := by omega
      have hm : m = wd L := by rw [Hm.out, List.take_of_length_le (by rw [HLL.out]; omega)]
      have hm2 : m < 4294967296 := by
        have := hwl 4 (by rw [HLL.out]; omega)
        rw [List.take_of_length_le (by rw [HLL.out]; omega), ← hm] at this
        simpa using this
      have HM := Lib.hid hm
      clear hm
      go_wp2_with fail
      go_ret
      refine ⟨?_, rfl⟩
      rw [HW.out, ← HM.out, UInt32.toNat_ofNat', Nat.mod_eq_of_lt (by simpa using hm2)]
      rfl
#print axioms get_any
end Go.Proofs.YtbcgnacfhpahkaaDoor.dg
