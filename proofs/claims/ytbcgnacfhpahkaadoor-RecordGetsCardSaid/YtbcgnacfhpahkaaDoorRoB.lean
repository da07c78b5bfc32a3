/- Octet's lists and texts, beside lz's. -/
import Derived.Test.YtbcgnacfhpahkaaDoorLoB
namespace Go.Proofs.YtbcgnacfhpahkaaDoor.oct
open Go.RowKit Mem OM
set_option linter.unusedVariables false
theorem numbers_any (A A2 : Option Addr) (n c m d B : Nat) (l : List UInt8) (q : List Int) (w : World) (h : Rd w B A n (bv l)) (h2 : Rd w B A2 m (iv q)) (hB : B ≤ w.heap.size) (hn : n ≤ 1099511627776) (hm : m ≤ 1099511627776)
    (hq : ∀ x ∈ q, -9223372036854775808 ≤ x ∧ x ≤ 9223372036854775807) :
    Calls Tryd.prog 42 #[.slice A n c, .slice A2 m d] w (Made w (l ++ numsB q)) := by
  have Hn := Lib.hid h.len
  have Hm := Lib.hid h2.len
  have Hq := Lib.hid hq
  clear hq
  go_enter Tryd.func42, Tryd.ntmps42
  go_wp2_with fail
  refine (room_any _ _ _ _ _ l _ h hB (by omega) (by omega) (by omega)).mono ?_
  rintro e w1 ⟨A1, N1, c1, rfl, ho1, hb1⟩
  have hN : N1 ≤ n := by have := ho1.len; have := Hn.out; omega
  go_wp2_with fail
  go_loopw [5, 14] (fun v i wr => ∃ A3 N3 c3, ∃ k : Nat, v = .slice A3 N3 c3 ∧ i = .int .i64 k ∧ k ≤ m ∧ N3 ≤ n + 9 * k ∧ Ow wr w.heap.size 5 A3 N3 c3 (bv (l ++ numsB (q.take k))) ∧ Below w.heap.size w wr)
    (fun _ i _ => m - (intOf i).toNat)
  case atStart => exact ⟨A1, N1, c1, 0, rfl, rfl, by omega, by omega, by simpa [numsB] using ho1, hb1⟩
  case round =>
    obtain ⟨A3, N3, c3, k, rfl, rfl, hk, hN3, ho, hb⟩ := hrel
    by_cases hlt : k < m
    · have hkl : k < q.length := by have := Hm.out; rw [iv_len] at this; omega
      have hc := (h2.below hb hB)
      obtain ⟨b, off, rfl, hbB, hcell⟩ := hc.at_ hlt
      rw [iv_at q k hkl] at hcell
      have hr := Hq.out q[k] (List.getElem_mem hkl)
      obtain ⟨x, hx⟩ : ∃ x, x = q[k] := ⟨_, rfl⟩
      rw [← hx] at hcell hr
      have Hx := Lib.hid hx
      clear hx
      obtain ⟨hr1, hr2⟩ := hr
      go_wp2_with fail
      refine (put_all _ _ _ _ x _ _ ho hb.size (by omega) hr1 hr2).mono ?_
      rintro e w4 ⟨A4, N4, c4, rfl, ho4, hg4⟩
      have hb4 := hb.trans (hg4.below hb.size fun k hk => (ho.blk_lt k hk).1)
      rw [← bv_app, List.append_assoc, Hx.out, ← numsB_snoc, ← take_snoc q k hkl] at ho4
      have hN4 : N4 ≤ N3 + 9 := by
        have h1 := ho4.len
        have h2 := ho.len
        rw [take_snoc q k hkl, numsB_snoc, bv_len] at h1
        rw [bv_len] at h2
        have := numB_le (q[k].toNat)
        simp only [List.length_append] at h1 h2
        omega
      clear hg4
      go_wp2_with fail
      go_roundw
      case rel => exact ⟨A4, N4, c4, k + 1, rfl, by go_num, by omega, by omega, ho4, hb4⟩
      case measure => simp [intOf]; omega
    · obtain rfl : k = m := by omega
      go_wp2_with fail
      go_ret
      refine ⟨_, _, _, rfl, ?_, hb⟩
      have := Hm.out
      rw [iv_len] at this
      rw [List.take_of_length_le (by omega)] at ho
      exact ho

theorem text_any (A A2 : Option Addr) (n c m d B : Nat) (l s : List UInt8) (w : World) (h : Rd w B A n (bv l)) (h2 : Rd w B A2 m (bv s)) (hB : B ≤ w.heap.size) (hn : n ≤ 1099511627776) (hm : m ≤ 1099511627776) :
    Calls Tryd.prog 43 #[.slice A n c, .slice A2 m d] w (Made w (l ++ numB m ++ s)) := by
  have Hn := Lib.hid h.len
  have Hm := Lib.hid h2.len
  go_enter Tryd.func43, Tryd.ntmps43
  go_wp2_with fail
  refine (room_any _ _ _ _ _ l _ h hB (by omega) (by omega) (by omega)).mono ?_
  rintro e w1 ⟨A1, N1, c1, rfl, ho1, hb1⟩
  have hN : N1 ≤ n := by have := ho1.len; have := Hn.out; omega
  go_wp2_with fail
  refine (put_all _ _ _ _ _ _ _ ho1 hb1.size (by omega) (by omega) (by omega)).mono ?_
  rintro e w2 ⟨A2, N2, c2, rfl, ho2, hg2⟩
  rw [Int.toNat_natCast, ← bv_app] at ho2
  have hb2 := hb1.trans (hg2.below hb1.size fun k hk => (ho1.blk_lt k hk).1)
  have hN2 : N2 ≤ n + 9 := by
    have h1 := ho2.len
    have h2 := Hn.out
    rw [bv_len] at h1 h2
    have := numB_le m
    simp only [List.length_append] at h1
    omega
  clear hg2
  go_wp2_with (at_builtin; refine wp_app u8ty rfl (.tmp 12) (.tmp 13) rfl rfl rfl ho2 (h2.below hb2 hB) (bv_one _) (by omega) (by omega) hb2.size ?_; intro A3 N3 c3 w3 ho3 hN3 hb3 hg3)
  go_ret
  exact ⟨_, _, _, rfl, by rw [← bv_app] at ho3; exact ho3, hb2.trans hb3⟩

theorem refText_any (A A2 : Option Addr) (n c m d B : Nat) (l s : List UInt8) (w : World) (h : Rd w B A n (bv l)) (h2 : Rd w B A2 m (bv s)) (hB : B ≤ w.heap.size) (hn : n ≤ 1099511627776) (hm : m ≤ 1099511627776) :
    Calls Tryd.prog 45 #[.slice A n c, .slice A2 m d] w (Made w (l ++ numB m ++ s)) := by
  have Hn := Lib.hid h.len
  have Hm := Lib.hid h2.len
  go_enter Tryd.func45, Tryd.ntmps45
  go_wp2_with fail
  refine (refNumber_any _ _ _ _ _ l _ h hB (by omega) (by omega) (by omega)).mono ?_
  rintro e w2 ⟨A2, N2, c2, rfl, ho2, hb2⟩
  rw [Int.toNat_natCast] at ho2
  have hN2 : N2 ≤ n + 9 := by
    have h1 := ho2.len
    have h2 := Hn.out
    rw [bv_len] at h1 h2
    have := numB_le m
    simp only [List.length_append] at h1
    omega
  go_wp2_with (at_builtin; refine wp_app u8ty rfl (.tmp 8) (.tmp 9) rfl rfl rfl ho2 (h2.below hb2 hB) (bv_one _) (by omega) (by omega) hb2.size ?_; intro A3 N3 c3 w3 ho3 hN3 hb3 hg3)
  go_ret
  exact ⟨_, _, _, rfl, by rw [← bv_app] at ho3; exact ho3, hb2.trans hb3⟩
end Go.Proofs.YtbcgnacfhpahkaaDoor.oct
