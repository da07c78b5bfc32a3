/- Contracts of the great sum: sums.Crc, lay, Seal, Open, and the document's. The table 'fours' lies in its variable. -/
import Derived.Test.YtkgfbehlcjjjnaaDoorSumA
import Derived.Test.YtkgfbehlcjjjnaaDoorCrcMath
namespace Go.Proofs.YtkgfbehlcjjjnaaDoor.sum
open Go.RowKit Mem SM lib CM

/-- the table's cells -/
def Tab (w : World) : Prop := ∀ i, i < 16 → w.cell? ⟨0, i, none⟩ = some (.int .u32 (fours.getD i 0 : Nat))
theorem Tab.pos {w : World} (h : Tab w) : 0 < w.heap.size := cell_lt (h 0 (by omega))
theorem Tab.below {w w' : World} (h : Tab w) {B : Nat} (hb : Below B w w') (hB : 0 < B) : Tab w' := fun i hi => (hb.cell (p := ⟨0, i, none⟩) hB).trans (h i hi)
theorem Tab.drewN {w : World} (h : Tab w) (q : Nat) : Tab (w.drewN q) := h

theorem crc_any (A : Option Addr) (n c B : Nat) (ls : List (List UInt8)) (w : World) (h : Parts w B A n ls) (ht : Tab w) (hn : n ≤ 1099511627776) (htot : tot ls ≤ 1099511627776) :
    Calls Tryd.prog 23 #[.slice A n c] w fun e w' => e = .returned (.int .u32 ((crc ls.flatten).toNat : Int)) ∧ w = w' := by
  have Hl := Lib.hid h.len
  have Ht := Lib.hid ht
  clear ht
  go_enter Tryd.func23, Tryd.ntmps23
  go_wp2_with fail
  go_loop [3, 5, 7, 10] (fun s _ _ i => ∃ k S : Nat, s = .int .u32 S ∧ i = .int .i64 k ∧ k ≤ n ∧ S < 4294967296 ∧ Hid (S = (crcF ones (ls.take k).flatten).toNat)) (fun _ _ _ i => n - (intOf i).toNat)
  case atStart => exact ⟨0, 4294967295, rfl, rfl, by omega, by omega, (rfl : 4294967295 = (crcF ones []).toNat)⟩
  case round =>
    obtain ⟨k, S, rfl, rfl, hk, hS, HS⟩ := hrel
    by_cases hlt : k < n
    · obtain ⟨b, off, Ai, ni, ci, l, rfl, hbB, hcell, hci, hri, ⟨hkl, hel⟩, hni⟩ := h.at_ hlt
      have hlen : l.length ≤ 1099511627776 := by have := len_le_tot ls k hkl; rw [hel] at this; omega
      have hni2 : ni ≤ 1099511627776 := by omega
      have Hni := Lib.hid hni
      clear hlen hni
      go_wp2_with fail
      go_loop [3, 7, 16] (fun s _ i => ∃ j T : Nat, s = .int .u32 T ∧ i = .int .i64 j ∧ j ≤ ni ∧ T < 4294967296 ∧ Hid (T = (crcF ones ((ls.take k).flatten ++ l.take j)).toNat)) (fun _ _ i => ni - (intOf i).toNat)
      case atStart => exact ⟨0, S, rfl, rfl, by omega, hS, (by rw [List.take_zero, List.append_nil]; exact HS.out : S = (crcF ones ((ls.take k).flatten ++ l.take 0)).toNat)⟩
      case round =>
        obtain ⟨j, T, rfl, rfl, hj, hT, HT⟩ := hrel
        by_cases hlt2 : j < ni
        · obtain ⟨b2, o2, rfl, _, hc1⟩ := hri.at_ hlt2
          have hl1 : j < l.length := by have := Hni.out; omega
          rw [bv_at l j hl1] at hc1
          obtain ⟨d, r, t, e, r2, t2, f, f1, f2, f3, f4, f5, f6, f7, f8, f9, f10, f11, f12, f13⟩ := crc_step (crcF ones ((ls.take k).flatten ++ l.take j)) l[j]
          rw [← HT.out] at f1
          obtain ⟨x, hx⟩ : ∃ x, x = (l[j]).toNat := ⟨_, rfl⟩
          have hx8 : x < 256 := by rw [hx]; exact UInt8.toNat_lt _
          rw [← hx] at hc1 f1
          have g1 := Ht.out r f4
          have g2 := Ht.out r2 f9
          rw [← f5] at g1
          rw [← f10] at g2
          have HF : Hid (f = (crcF ones ((ls.take k).flatten ++ l.take (j + 1))).toNat) := by
            show f = _
            rw [List.take_succ_eq_append_getElem hl1, ← List.append_assoc, crcF_snoc]
            exact f13
          clear f5 f10 f13 hx
          go_wp2
          go_round
          case rel => exact ⟨j + 1, f, rfl, by go_num, by omega, f12, HF⟩
          case measure => simp [intOf]; omega
        · have HT2 : Hid (T = (crcF ones (ls.take (k + 1)).flatten).toNat) := by
            show T = _
            rw [HT.out, List.take_of_length_le (l := l) (i := j) (by have := Hni.out; omega), List.take_succ_eq_append_getElem hkl, List.flatten_append, hel]
            simp
          go_wp2
          go_round
          case rel => exact ⟨k + 1, T, rfl, by go_num, by omega, hT, HT2⟩
          case measure => simp [intOf]; omega
    · have he : S = (crcF ones ls.flatten).toNat := by rw [HS.out, List.take_of_length_le (by have := Hl.out; omega)]
      have hx := not_u32 (crcF ones ls.flatten)
      rw [← he] at hx
      obtain ⟨v, hv⟩ : ∃ v, v = (crc ls.flatten).toNat := ⟨_, rfl⟩
      rw [show (~~~ (crcF ones ls.flatten)).toNat = v from by rw [hv]; rfl] at hx
      have HV := Lib.hid hv
      clear he hv
      go_wp2
      go_ret
      exact ⟨ret_int (by rw [HV.out]), rfl⟩

/-- the document's great sum -/
theorem refCrc_any (A : Option Addr) (n c B : Nat) (l : List UInt8) (w : World) (h : Rd w B A n (bv l)) (hn : n ≤ 1099511627776) :
    Calls Tryd.prog 24 #[.slice A n c] w fun e w' => e = .returned (.int .u32 ((crc l).toNat : Int)) ∧ w = w' := by
  have Hl := Lib.hid h.len
  go_enter Tryd.func24, Tryd.ntmps24
  go_wp2_with fail
  go_loop [3, 5, 6, 9] (fun s _ _ i => ∃ k S : Nat, s = .int .u32 S ∧ i = .int .i64 k ∧ k ≤ n ∧ S < 4294967296 ∧ Hid (S = (crcF ones (l.take k)).toNat)) (fun _ _ _ i => n - (intOf i).toNat)
  case atStart => exact ⟨0, 4294967295, rfl, rfl, by omega, by omega, (rfl : 4294967295 = (crcF ones []).toNat)⟩
  case round =>
    obtain ⟨k, S, rfl, rfl, hk, hS, HS⟩ := hrel
    by_cases hlt : k < n
    · obtain ⟨b2, o2, rfl, _, hc1⟩ := h.at_ hlt
      have hl1 : k < l.length := by have := Hl.out; rw [bv_len] at this; omega
      rw [bv_at l k hl1] at hc1
      obtain ⟨d, _, _, _, _, _, _, f1, hd, _⟩ := crc_step (crcF ones (l.take k)) l[k]
      have hde : d = (crcF ones (l.take k) ^^^ bb l[k]).toNat := by
        have hx := u32_xor_nat (crcF ones (l.take k)).toNat (l[k]).toNat (BitVec.isLt _) (by have := (l[k]).toNat_lt; omega)
        rw [hx] at f1
        rw [BitVec.toNat_xor]
        unfold bb
        rw [BitVec.toNat_ofNat, Nat.mod_eq_of_lt (by have := (l[k]).toNat_lt; omega)]
        omega
      rw [← HS.out] at f1
      obtain ⟨x, hx⟩ : ∃ x, x = (l[k]).toNat := ⟨_, rfl⟩
      have hx8 : x < 256 := by rw [hx]; exact UInt8.toNat_lt _
      rw [← hx] at hc1 f1
      have HD := Lib.hid hde
      clear hde hx
      go_wp2_with fail
      go_loop [3, 6, 17] (fun s _ i => ∃ j T : Nat, s = .int .u32 T ∧ i = .int .i64 j ∧ j ≤ 8 ∧ T < 4294967296 ∧ Hid (T = (bstN j (crcF ones (l.take k) ^^^ bb l[k])).toNat)) (fun _ _ i => 8 - (intOf i).toNat)
      case atStart => exact ⟨0, d, rfl, rfl, by omega, hd, HD⟩
      case round =>
        obtain ⟨j, T, rfl, rfl, hj, hT, HT⟩ := hrel
        by_cases hj8 : j < 8
        · have hst : bstN (j + 1) (crcF ones (l.take k) ^^^ bb l[k]) = bst (bstN j (crcF ones (l.take k) ^^^ bb l[k])) := by rw [bstN_add]; rfl
          have hb := bit_step (bstN j (crcF ones (l.take k) ^^^ bb l[k]))
          rw [← hst, ← HT.out] at hb
          rcases hb with ⟨h1, h2⟩ | ⟨h1, h2⟩
          · obtain ⟨v, hv⟩ : ∃ v, v = (bstN (j + 1) (crcF ones (l.take k) ^^^ bb l[k])).toNat := ⟨_, rfl⟩
            rw [← hv] at h2
            have hvl : v < 4294967296 := by rw [hv]; exact BitVec.isLt _
            have e1 : ((T : Int) % 2 == 1) = true := by rw [beq_iff_eq]; omega
            have HV := Lib.hid hv
            clear hv h1 hst
            go_wp2
            go_round
            case rel => exact ⟨j + 1, v, rfl, by go_num, by omega, hvl, HV.out⟩
            case measure => simp [intOf]; omega
          · have e1 : ((T : Int) % 2 == 1) = false := by rw [beq_eq_false_iff_ne]; omega
            have HV := Lib.hid h2
            clear h1 h2 hst
            go_wp2
            go_round
            case rel => exact ⟨j + 1, T / 2, by simp, by go_num, by omega, by omega, HV.out⟩
            case measure => simp [intOf]; omega
        · obtain rfl : j = 8 := by omega
          have HT2 : Hid (T = (crcF ones (l.take (k + 1))).toNat) := by
            show T = _
            rw [List.take_succ_eq_append_getElem hl1, crcF_snoc]
            exact HT.out
          go_wp2
          go_round
          case rel => exact ⟨k + 1, T, rfl, by go_num, by omega, hT, HT2⟩
          case measure => simp [intOf]; omega
    · have he : S = (crcF ones l).toNat := by rw [HS.out, List.take_of_length_le (by have := Hl.out; rw [bv_len] at this; omega)]
      have hv : 4294967295 - S = (crc l).toNat := by
        unfold crc
        rw [BitVec.toNat_not, he]
      have f1 : IntKind.u32.wrap (4294967295 - (S : Int)) = ((crc l).toNat : Int) := by
        rw [IntKind.wrap_u32]
        omega
      clear he
      have HV := Lib.hid hv
      clear hv
      go_wp2
      go_ret
      first | exact ⟨rfl, rfl⟩ | exact ⟨ret_int (by have := HV.out; omega), rfl⟩
end Go.Proofs.YtkgfbehlcjjjnaaDoor.sum
