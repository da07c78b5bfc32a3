/- Contracts of packet's small calls: numbers laid and read, and the document's. -/
import Derived.Test.YtjpdamighffgfaaSumA
import Derived.Test.YtjpdamighffgfaaPkMath2
import Derived.Deep.RegionHeld3
namespace Go.Proofs.Ytjpdamighffgfaa.pk
open Go.RowKit Mem SM lib sum PM
set_option linter.unusedVariables false
/-- what a call leaves that appends to a row of the caller's own -/
def Laid (base : Nat) (A : Option Addr) (n : Nat) (l : List UInt8) (w : World) (e : Ending) (w' : World) : Prop := ∃ A' N' c', e = .returned (.slice A' N' c') ∧ N' ≤ n ∧ Ow w' base 5 A' N' c' (bv l) ∧ Grew w w' A A'
theorem bigB_step (v : Int) (k i : Nat) (h : i < k) : bigB (v / 256 ^ (k - (i + 1))) (i + 1) = bigB (v / 256 ^ (k - i)) i ++ [b8 (v / 256 ^ (k - (i + 1)))] := by
  have e : v / 256 ^ (k - (i + 1)) / 256 = v / 256 ^ (k - i) := by
    rw [Int.ediv_ediv_of_nonneg (by have : (0 : Int) < 256 ^ (k - (i + 1)) := Int.pow_pos (by omega); omega), ← Int.pow_succ]
    congr 2
    omega
  show bigB (v / 256 ^ (k - (i + 1)) / 256) i ++ _ = _
  rw [e]
theorem or_num (m x : Nat) (hm : m < 72057594037927936) (hx : x < 256) : bits BinOp.or IntKind.u64 ((m : Int) * 256) (x : Int) = (m : Int) * 256 + (x : Int) := by
  have e : ((m : Int) * 256) = ((2 ^ 8 * m : Nat) : Int) := by simp; omega
  rw [e, u64_or_nat _ _ (by omega) (by omega), ← Nat.two_pow_add_eq_or_of_lt (i := 8) (by omega) m]
  simp
theorem byteAt (v : Int) (m : Nat) : v / 2 ^ (8 * m) % 256 = ((b8 (v / 256 ^ m)).toNat : Int) := by
  have e : (2 : Int) ^ (8 * m) = 256 ^ m := by rw [Int.pow_mul]; rfl
  rw [b8_nat, e]
theorem layI_any (A : Option Addr) (n c base k : Nat) (l : List UInt8) (v : Int) (w : World) (h : Ow w base 5 A n c (bv l)) (hB : base ≤ w.heap.size) (hn : n ≤ 1099511627776) (hk : k ≤ 8) (h0 : 0 ≤ v) (h1 : v ≤ 9223372036854775807) :
    Calls Try.prog 33 #[.slice A n c, .int .i64 v, .int .i64 k] w (Laid base A (n + k) (l ++ bigB v k) w) := by
  go_enter Try.func33, Try.ntmps33
  go_wp2_with fail
  go_loopw [0, 7, 9] (fun b _ i wr => ∃ A2 N2 c2, ∃ j : Nat, b = .slice A2 N2 c2 ∧ i = .int .i64 j ∧ j ≤ k ∧ N2 ≤ n + j ∧ Ow wr base 5 A2 N2 c2 (bv (l ++ bigB (v / 256 ^ (k - j)) j)) ∧ Grew w wr A A2 ∧ base ≤ wr.heap.size)
    (fun _ _ i _ => k - (intOf i).toNat)
  case atStart => exact ⟨A, n, c, 0, rfl, rfl, by omega, by omega, by simpa [bigB] using h, Grew.refl _ _, hB⟩
  case round =>
    obtain ⟨A2, N2, c2, j, rfl, rfl, hj, hN2, ho, hg, hb⟩ := hrel
    by_cases hlt : j < k
    · have hst := bigB_step v k j hlt
      have Hst := Lib.hid hst
      clear hst
      go_wp2_with (at_builtin; refine wp_app u8ty rfl (.tmp 12) (.tmp 21) rfl rfl rfl (ho.alloc _) (Rd.one _ _ _) (one1 rfl) (by omega) (by omega) (by simp; omega) ?_; intro A3 N3 c3 w3 ho3 hN3 hb3 hg3)
      rw [byteAt v (k - 1 - j), show k - 1 - j = k - (j + 1) from by omega, show [Value.int .u8 ((b8 (v / 256 ^ (k - (j + 1)))).toNat : Int)] = bv [b8 (v / 256 ^ (k - (j + 1)))] from rfl, ← bv_app, List.append_assoc, ← Hst.out] at ho3
      have hg4 := (hg.alloc _).trans hg3
      have hb4 := Nat.le_trans hB hg4.1.size
      clear hg3 hb3
      go_roundw
      case rel => exact ⟨A3, N3, c3, j + 1, rfl, by go_num, by omega, by omega, ho3, hg4, hb4⟩
      case measure => simp [intOf]; omega
    · obtain rfl : j = k := by omega
      go_wp2
      go_ret
      exact ⟨_, _, _, rfl, hN2, by simpa using ho, hg⟩
theorem layH_any (A : Option Addr) (n c base k : Nat) (l : List UInt8) (v : Int) (w : World) (h : Ow w base 5 A n c (bv l)) (hB : base ≤ w.heap.size) (hn : n ≤ 1099511627776) (hk : k ≤ 2) (h0 : 0 ≤ v) (h1 : v ≤ 65535) :
    Calls Try.prog 35 #[.slice A n c, .int .u16 v, .int .i64 k] w (Laid base A (n + k) (l ++ bigB v k) w) := by
  go_enter Try.func35, Try.ntmps35
  go_wp2_with fail
  go_loopw [0, 7, 9] (fun b _ i wr => ∃ A2 N2 c2, ∃ j : Nat, b = .slice A2 N2 c2 ∧ i = .int .i64 j ∧ j ≤ k ∧ N2 ≤ n + j ∧ Ow wr base 5 A2 N2 c2 (bv (l ++ bigB (v / 256 ^ (k - j)) j)) ∧ Grew w wr A A2 ∧ base ≤ wr.heap.size)
    (fun _ _ i _ => k - (intOf i).toNat)
  case atStart => exact ⟨A, n, c, 0, rfl, rfl, by omega, by omega, by simpa [bigB] using h, Grew.refl _ _, hB⟩
  case round =>
    obtain ⟨A2, N2, c2, j, rfl, rfl, hj, hN2, ho, hg, hb⟩ := hrel
    by_cases hlt : j < k
    · have hst := bigB_step v k j hlt
      have Hst := Lib.hid hst
      clear hst
      go_wp2_with (at_builtin; refine wp_app u8ty rfl (.tmp 12) (.tmp 21) rfl rfl rfl (ho.alloc _) (Rd.one _ _ _) (one1 rfl) (by omega) (by omega) (by simp; omega) ?_; intro A3 N3 c3 w3 ho3 hN3 hb3 hg3)
      rw [byteAt v (k - 1 - j), show k - 1 - j = k - (j + 1) from by omega, show [Value.int .u8 ((b8 (v / 256 ^ (k - (j + 1)))).toNat : Int)] = bv [b8 (v / 256 ^ (k - (j + 1)))] from rfl, ← bv_app, List.append_assoc, ← Hst.out] at ho3
      have hg4 := (hg.alloc _).trans hg3
      have hb4 := Nat.le_trans hB hg4.1.size
      clear hg3 hb3
      go_roundw
      case rel => exact ⟨A3, N3, c3, j + 1, rfl, by go_num, by omega, by omega, ho3, hg4, hb4⟩
      case measure => simp [intOf]; omega
    · obtain rfl : j = k := by omega
      go_wp2
      go_ret
      exact ⟨_, _, _, rfl, hN2, by simpa using ho, hg⟩
theorem layW_any (A : Option Addr) (n c base k : Nat) (l : List UInt8) (v : Int) (w : World) (h : Ow w base 5 A n c (bv l)) (hB : base ≤ w.heap.size) (hn : n ≤ 1099511627776) (hk : k ≤ 4) (h0 : 0 ≤ v) (h1 : v ≤ 4294967295) :
    Calls Try.prog 34 #[.slice A n c, .int .u32 v, .int .i64 k] w (Laid base A (n + k) (l ++ bigB v k) w) := by
  go_enter Try.func34, Try.ntmps34
  go_wp2_with fail
  go_loopw [0, 7, 9] (fun b _ i wr => ∃ A2 N2 c2, ∃ j : Nat, b = .slice A2 N2 c2 ∧ i = .int .i64 j ∧ j ≤ k ∧ N2 ≤ n + j ∧ Ow wr base 5 A2 N2 c2 (bv (l ++ bigB (v / 256 ^ (k - j)) j)) ∧ Grew w wr A A2 ∧ base ≤ wr.heap.size)
    (fun _ _ i _ => k - (intOf i).toNat)
  case atStart => exact ⟨A, n, c, 0, rfl, rfl, by omega, by omega, by simpa [bigB] using h, Grew.refl _ _, hB⟩
  case round =>
    obtain ⟨A2, N2, c2, j, rfl, rfl, hj, hN2, ho, hg, hb⟩ := hrel
    by_cases hlt : j < k
    · have hst := bigB_step v k j hlt
      have Hst := Lib.hid hst
      clear hst
      go_wp2_with (at_builtin; refine wp_app u8ty rfl (.tmp 12) (.tmp 21) rfl rfl rfl (ho.alloc _) (Rd.one _ _ _) (one1 rfl) (by omega) (by omega) (by simp; omega) ?_; intro A3 N3 c3 w3 ho3 hN3 hb3 hg3)
      rw [byteAt v (k - 1 - j), show k - 1 - j = k - (j + 1) from by omega, show [Value.int .u8 ((b8 (v / 256 ^ (k - (j + 1)))).toNat : Int)] = bv [b8 (v / 256 ^ (k - (j + 1)))] from rfl, ← bv_app, List.append_assoc, ← Hst.out] at ho3
      have hg4 := (hg.alloc _).trans hg3
      have hb4 := Nat.le_trans hB hg4.1.size
      clear hg3 hb3
      go_roundw
      case rel => exact ⟨A3, N3, c3, j + 1, rfl, by go_num, by omega, by omega, ho3, hg4, hb4⟩
      case measure => simp [intOf]; omega
    · obtain rfl : j = k := by omega
      go_wp2
      go_ret
      exact ⟨_, _, _, rfl, hN2, by simpa using ho, hg⟩

/-- bytes read: at most eight -/
theorem gather_any (A : Option Addr) (n c B : Nat) (l : List UInt8) (w : World) (h : Rd w B A n (bv l)) (hn : n ≤ 8) :
    Calls Try.prog 49 #[.slice A n c] w fun e w' => e = .returned (.int .u64 (numB l : Nat)) ∧ w = w' := by
  have Hn := Lib.hid (show l.length = n by rw [← bv_len, h.len])
  go_enter Try.func49, Try.ntmps49
  go_wp2_with fail
  go_loop [3, 5, 8] (fun v _ i => ∃ k m : Nat, v = .int .u64 m ∧ i = .int .i64 k ∧ k ≤ n ∧ Hid (m = numB (l.take k))) (fun _ _ i => n - (intOf i).toNat)
  case atStart => exact ⟨0, 0, rfl, rfl, by omega, (rfl : 0 = numB [])⟩
  case round =>
    obtain ⟨k, m, rfl, rfl, hk, Hm⟩ := hrel
    by_cases hlt : k < n
    · have hkl : k < l.length := by have := Hn.out; omega
      obtain ⟨b1, o1, rfl, _, hc1⟩ := h.at_ hlt
      rw [bv_at l k hkl] at hc1
      obtain ⟨x, hx⟩ : ∃ x, x = (l[k]).toNat := ⟨_, rfl⟩
      rw [← hx] at hc1
      have hx8 : x < 256 := by rw [hx]; exact UInt8.toNat_lt _
      have hs : numB (l.take (k + 1)) = 256 * m + x := by rw [numB_take l k hkl, ← Hm.out, hx]
      have hm : m < 72057594037927936 := by
        have h1 := numB_lt (l.take k)
        have h2 : (l.take k).length ≤ 7 := by simp; omega
        have h3 : 256 ^ (l.take k).length ≤ 256 ^ 7 := Nat.pow_le_pow_right (by omega) h2
        rw [← Hm.out] at h1
        exact Nat.lt_of_lt_of_le h1 h3
      have Hs := Lib.hid hs
      clear hs hx
      have hk1 : (k : Int) < (n : Int) := by omega
      have hor : bits BinOp.or IntKind.u64 ((m : Int) * 256) (x : Int) = (m : Int) * 256 + (x : Int) := or_num m x (by omega) hx8
      go_wp2_with fail
      go_round
      case rel => exact ⟨k + 1, 256 * m + x, by simp; omega, by go_num, by omega, Lib.hid Hs.out.symm⟩
      case measure => simp [intOf]; omega
    · have hm : m = numB l := by rw [Hm.out, List.take_of_length_le (by have := Hn.out; omega)]
      have HM := Lib.hid hm
      clear hm
      go_wp2
      go_ret
      exact ⟨ret_int (by rw [HM.out]), rfl⟩
theorem wrap64_off (z q : Int) : wrap64 (z + 18446744073709551616 * q) = wrap64 z := by
  unfold wrap64
  rw [show z + 18446744073709551616 * q + 9223372036854775808 = z + 9223372036854775808 + 18446744073709551616 * q from by omega, Int.add_mul_emod_self_left]
theorem wrap64_is (z : Int) : ∃ q, wrap64 z = z + 18446744073709551616 * q := ⟨-((z + 9223372036854775808) / 18446744073709551616), by unfold wrap64; omega⟩
theorem s64_wrap (n : Nat) : s64 n = wrap64 (n : Int) := by unfold s64 wrap64; exact Eq.refl _
theorem num_step (t x : Nat) : s64 (256 * t + x) = wrap64 (wrap64 (256 * s64 t) + (x : Int)) := by
  rw [s64_wrap, s64_wrap]
  obtain ⟨q1, e1⟩ := wrap64_is (t : Int)
  rw [e1]
  obtain ⟨q2, e2⟩ := wrap64_is (256 * ((t : Int) + 18446744073709551616 * q1))
  rw [e2]
  rw [show 256 * ((t : Int) + 18446744073709551616 * q1) + 18446744073709551616 * q2 + (x : Int) = ((256 * t + x : Nat) : Int) + 18446744073709551616 * (256 * q1 + q2) from by omega, wrap64_off]
/-- the document's reading of bytes: at most eight, as a number of 64 bits with its sign -/
theorem num_any (A : Option Addr) (n c B : Nat) (l : List UInt8) (w : World) (h : Rd w B A n (bv l)) (hn : n ≤ 8) :
    Calls Try.prog 43 #[.slice A n c] w fun e w' => e = .returned (.int .i64 (s64 (numB l))) ∧ w = w' := by
  have Hn := Lib.hid (show l.length = n by rw [← bv_len, h.len])
  go_enter Try.func43, Try.ntmps43
  go_wp2_with fail
  go_loop [3, 5, 8] (fun v _ i => ∃ (k : Nat) (m : Int), v = .int .i64 m ∧ i = .int .i64 k ∧ k ≤ n ∧ Hid (m = s64 (numB (l.take k)))) (fun _ _ i => n - (intOf i).toNat)
  case atStart => exact ⟨0, 0, rfl, rfl, by omega, (by rw [List.take_zero]; decide : (0 : Int) = s64 (numB (l.take 0)))⟩
  case round =>
    obtain ⟨k, m, rfl, rfl, hk, Hm⟩ := hrel
    by_cases hlt : k < n
    · have hkl : k < l.length := by have := Hn.out; omega
      obtain ⟨b1, o1, rfl, _, hc1⟩ := h.at_ hlt
      rw [bv_at l k hkl] at hc1
      obtain ⟨x, hx⟩ : ∃ x, x = (l[k]).toNat := ⟨_, rfl⟩
      rw [← hx] at hc1
      have hx8 : x < 256 := by rw [hx]; exact UInt8.toNat_lt _
      have hs : s64 (numB (l.take (k + 1))) = wrap64 (wrap64 (256 * m) + (x : Int)) := by
        rw [numB_take l k hkl, Hm.out, ← hx, num_step]
      have Hs := Lib.hid hs
      clear hs hx
      have hk1 : (k : Int) < (n : Int) := by omega
      go_wp2_with fail
      go_round
      case rel => exact ⟨k + 1, _, rfl, by go_num, by omega, Lib.hid Hs.out.symm⟩
      case measure => simp [intOf]; omega
    · have hm : m = s64 (numB l) := by rw [Hm.out, List.take_of_length_le (by have := Hn.out; omega)]
      have HM := Lib.hid hm
      clear hm
      go_wp2
      go_ret
      exact ⟨ret_int (by rw [HM.out]), rfl⟩
/-- the document's bytes of a number -/
theorem big_any (v : Int) (k : Nat) (w : World) (hk : k ≤ 8) (h0 : 0 ≤ v) (h1 : v ≤ 9223372036854775807) :
    Calls Try.prog 37 #[.int .i64 v, .int .i64 k] w (Made w (bigB v k)) := by
  go_enter Try.func37, Try.ntmps37
  go_wp2_with fail
  go_loopw [0, 5, 7] (fun v2 b i wr => ∃ A2 N2 c2, ∃ (j : Nat) (y : Int), v2 = .int .i64 y ∧ b = .slice A2 N2 c2 ∧ i = .int .i64 j ∧ j ≤ k ∧ N2 ≤ j ∧ 0 ≤ y ∧ y ≤ 9223372036854775807 ∧ Hid (y = v / 256 ^ j) ∧ Ow wr w.heap.size 5 A2 N2 c2 (bv (bigB v j)) ∧ Below w.heap.size w wr)
    (fun _ _ i _ => k - (intOf i).toNat)
  case atStart => exact ⟨none, 0, 0, 0, v, rfl, rfl, rfl, by omega, by omega, h0, h1, Lib.hid (by simp), Ow.nil _ _ _, Below.refl _ _⟩
  case round =>
    obtain ⟨A2, N2, c2, j, y, rfl, rfl, rfl, hj, hN2, hy0, hy1, Hy, ho, hb⟩ := hrel
    by_cases hlt : j < k
    · have hf := bigB_front j v
      rw [← Hy.out] at hf
      have Hf := Lib.hid hf
      have hy3 : y / 256 = v / 256 ^ (j + 1) := by
        rw [Hy.out, Int.ediv_ediv_of_nonneg (by have : (0 : Int) < 256 ^ j := Int.pow_pos (by omega); omega), ← Int.pow_succ]
      have HY := Lib.hid hy3
      clear hf hy3
      have hsz := hb.size
      go_wp2_with (at_builtin; refine wp_app u8ty rfl (.tmp 12) (.tmp 13) rfl rfl rfl (Ow.lit1 _ _ _ hsz) (ho.alloc _).rd (bv_one _) (by omega) (by omega) (by simp; omega) ?_; intro A3 N3 c3 w3 ho3 hN3 hb3 hg3)
      rw [show [Value.int .u8 (y % 256)] = bv [b8 y] from by simp [bv, b8_nat], ← bv_app, List.singleton_append, ← Hf.out] at ho3
      have hb4 := ((hb.alloc hsz _).trans hb3)
      clear hb3 hg3
      go_roundw
      case rel => exact ⟨A3, N3, c3, j + 1, y / 256, rfl, rfl, by go_num, by omega, by omega, by omega, by omega, HY, ho3, hb4⟩
      case measure => simp [intOf]; omega
    · obtain rfl : j = k := by omega
      go_wp2
      go_ret
      exact ⟨_, _, _, rfl, ho, hb⟩
end Go.Proofs.Ytjpdamighffgfaa.pk
