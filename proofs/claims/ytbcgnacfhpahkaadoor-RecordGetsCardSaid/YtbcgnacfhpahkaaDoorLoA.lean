/- Contracts of bytes.Equal, slices.Clone, octet.follow, room, put, Number, and of the document's Follow, Lead, Number: each ends, and what it answers. -/
import Derived.Test.YtbcgnacfhpahkaaDoorRows
import Derived.Test.YtbcgnacfhpahkaaDoorMem
import Derived.Test.YtbcgnacfhpahkaaDoorOctMath
namespace Go.Proofs.YtbcgnacfhpahkaaDoor.oct
open Go.RowKit Mem OM
theorem u8ty : Ty1 Tryd.prog 24 5 (.int .u8 0) 1 :=
  ⟨Tryd.underlying24, by
    have h : (Tryd.prog.info? 5).map (fun i => (i.zero, i.size, i.bytes)) = some (some (.int .u8 0), 1, 1) := by kernel_rfl
    obtain ⟨i, h1, h2, h3, h4⟩ := info_parts h
    exact ⟨i, h1, h2, h3, h4⟩, rfl⟩
theorem bs_toList (l : List UInt8) : (bs l).toList = l := by rw [ByteArray.toList_eq]; rfl
theorem ret_bool {a b : Bool} (h : a = b) : Ending.returned (.bool a) = .returned (.bool b) := by rw [h]
theorem ret_int {k : IntKind} {a b : Int} (h : a = b) : Ending.returned (.int k a) = .returned (.int k b) := by rw [h]

theorem equal_any (A1 A2 : Option Addr) (n c m d B : Nat) (l r : List UInt8) (w : World) (h1 : Rd w B A1 n (bv l)) (h2 : Rd w B A2 m (bv r)) :
    Calls Tryd.prog 21 #[.slice A1 n c, .slice A2 m d] w fun e w' => e = .returned (.bool (decide (l = r))) ∧ w = w' := by
  have r1 := run_string Tryd.underlying24 Tryd.underlying5 Tryd.underlying9 h1 c
  have r2 := run_string Tryd.underlying24 Tryd.underlying5 Tryd.underlying9 h2 d
  go_enter Tryd.func21, Tryd.ntmps21
  go_wp2
  go_ret
  exact ⟨ret_bool (by rw [bs_toList, bs_toList]; by_cases h : l = r <;> simp [h]), rfl⟩

/-- what a call leaves that answers new bytes -/
def Made (w : World) (l : List UInt8) (e : Ending) (w' : World) : Prop := ∃ A N c, e = .returned (.slice A N c) ∧ Ow w' w.heap.size 5 A N c (bv l) ∧ Below w.heap.size w w'

theorem clone_any (A : Option Addr) (n c B : Nat) (l : List UInt8) (w : World) (h : Rd w B A n (bv l)) (hB : B ≤ w.heap.size) (hn : n ≤ 140737488351232) :
    Calls Tryd.prog 17 #[.slice A n c] w (Made w l) := by
  have hnil := fun (a : Option Addr) => Lib.run_eql_slice_nil w _ _ a n c 0 0 Tryd.underlying24
  cases A with
  | none =>
    have h0 : l = [] := by
      rcases Nat.eq_zero_or_pos n with h0 | h0
      · exact List.eq_nil_of_length_eq_zero (by rw [← bv_len, h.len, h0])
      · obtain ⟨b, off, e, _⟩ := h.addr h0; cases e
    subst h0
    have Hh := Lib.hid h
    clear h
    go_enter Tryd.func17, Tryd.ntmps17
    go_wp2
    go_ret
    exact ⟨_, _, _, rfl, Ow.nil w _ _, Below.refl _ _⟩
  | some ad =>
    have hb : Below B w (w.alloc (.cells #[] 5)) := (Below.refl _ _).alloc hB _
    have h2 := h.below hb (Nat.le_refl _)
    have ho := Ow.lit w 5 [] (base := w.heap.size) (Nat.le_refl _) (by simp [maxLen])
    go_enter Tryd.func17, Tryd.ntmps17
    go_wp2_with (at_builtin; refine wp_app u8ty rfl (.tmp 5) (.tmp 6) rfl rfl rfl ho h2 (bv_one l) (by simp; omega) (by simp; omega) (by simp) ?_; intro A' N c' w1 ho1 _ hb1 _)
    go_ret
    exact ⟨_, _, _, rfl, by simpa using ho1, (Below.alloc (Below.refl _ _) (Nat.le_refl _) _).trans hb1⟩

theorem follow_any (u : Int) (w : World) (h0 : 0 ≤ u) (_h1 : u ≤ 9223372036854775807) :
    Calls Tryd.prog 87 #[.int .u64 u] w fun e w' => e = .returned (.int .i64 (fol u.toNat)) ∧ w = w' := by
  obtain ⟨u, rfl⟩ := Int.eq_ofNat_of_zero_le h0
  rw [Int.toNat_natCast]
  go_enter Tryd.func87, Tryd.ntmps87
  go_wp2
  go_loop [4] (fun i => ∃ k : Nat, k ≤ 8 ∧ i = .int .i64 k ∧ Hid (∀ j, j < k → pw j ≤ u)) (fun i => 8 - (intOf i).toNat)
  case atStart => exact ⟨0, by omega, rfl, fun j hj => by omega⟩
  case round =>
    obtain ⟨k, hk, rfl, hle⟩ := hrel
    have hq : ((u : Int) / 2 ^ (7 * (k + 1)) == 0) = decide (u < pw k) := by
      have e : ((u : Int) / 2 ^ (7 * (k + 1))) = ((u / pw k : Nat) : Int) := by unfold pw; simp
      have hp : 0 < pw k := Nat.pos_of_ne_zero (by unfold pw; simp)
      rw [e, Bool.eq_iff_iff]
      simp only [beq_iff_eq, decide_eq_true_eq]
      constructor
      · intro h
        have : u / pw k = 0 := by omega
        exact (Nat.div_eq_zero_iff_lt hp).1 this
      · intro h
        rw [Nat.div_eq_of_lt h]; rfl
    have Hq := Lib.hid hq
    clear hq
    go_wp2
    · have h2 : ((u : Int) / 2 ^ (7 * (k + 1)) == 0) = true := by assumption
      rw [Hq.out] at h2
      have hf := fol_eq u k hk hle.out (Or.inr (by simpa using h2))
      go_ret
      exact ⟨ret_int (by rw [hf]), rfl⟩
    · have h2 : ((u : Int) / 2 ^ (7 * (k + 1)) == 0) = false := by assumption
      rw [Hq.out] at h2
      go_round
      case rel => exact ⟨k + 1, by omega, by go_num, fun j hj => by
        by_cases e : j = k
        · subst e; simpa using h2
        · exact hle.out j (by omega)⟩
      case measure => simp [intOf]; omega
    · obtain rfl : k = 8 := by omega
      have hf := fol_eq u 8 hk hle.out (Or.inl rfl)
      go_ret
      exact ⟨ret_int (by rw [hf]; rfl), rfl⟩

theorem room_any (A : Option Addr) (n c B : Nat) (m : Int) (l : List UInt8) (w : World) (h : Rd w B A n (bv l)) (hB : B ≤ w.heap.size) (hn : n ≤ 140737488351232) (h0 : 0 ≤ m) (hm : m ≤ 140737488351232) :
    Calls Tryd.prog 66 #[.slice A n c, .int .i64 m] w (Made w l) := by
  have hlen := Lib.hid h.len
  go_enter Tryd.func66, Tryd.ntmps66
  go_wp2_with (first
    | (refine wp_make u8ty rfl (.tmp 7) (.tmp 11) rfl rfl rfl (by omega) (by omega) (by omega) (by omega) (Nat.le_refl _) ?_; intro g N C w1 hN hC ho hb hg hgs; have HN := Lib.hid hN; have HC := Lib.hid hC; have Hg := Lib.hid hgs; clear hN hC hgs)
    | (refine wp_copy u8ty rfl (.tmp 13) (.tmp 14) rfl (off := 0) ho (h.below hb hB) (bv_one l) rfl rfl (fun _ => rfl) (by omega) (by have := HN.out; omega) hb.size ?_; intro w2 ho2 hb2 _))
  go_ret
  refine ⟨_, _, _, rfl, ?_, hb.trans hb2⟩
  have e : splice (List.replicate N (Value.int .u8 0)) 0 (bv l) = bv l := by
    have hN := HN.out
    have hl := hlen.out
    unfold splice
    rw [List.take_zero, List.nil_append, List.drop_of_length_le (by simp; omega), List.append_nil]
  rw [e] at ho2
  exact ho2

/-- 'put' works on a row of its caller's own. -/
theorem put_any (A : Option Addr) (n c base : Nat) (x : Int) (xs : List Value) (w : World) (h : Ow w base 5 A n c xs) (hB : base ≤ w.heap.size) (hn : n ≤ 140737488351232) (h0 : 0 ≤ x) (h1 : x ≤ 9223372036854775807) :
    Calls Tryd.prog 65 #[.slice A n c, .int .i64 x] w fun e w' => ∃ A' N c', e = .returned (.slice A' N c') ∧ Ow w' base 5 A' N c' (xs ++ bv (numB x.toNat)) ∧ Grew w w' A A' := by
  obtain ⟨u, rfl⟩ := Int.eq_ofNat_of_zero_le h0
  rw [Int.toNat_natCast]
  have hk := fol_le u
  obtain ⟨k, hke⟩ : ∃ k, k = fol u := ⟨_, rfl⟩
  rw [← hke] at hk
  have Hk := Lib.hid hke
  clear hke
  go_enter Tryd.func65, Tryd.ntmps65
  go_wp2_with fail
  refine (follow_any _ _ (by omega) (by omega)).mono ?_
  rintro e w1 ⟨rfl, rfl⟩
  rw [Int.toNat_natCast, ← Hk.out]
  go_wp2_with fail
  have hs : IntKind.i64.wrap (8 * (k : Int)) = 8 * (k : Int) := IntWalk.i64_in _ (by omega)
  go_region_law (refine step_app u8ty rfl (.tmp 13) (.tmp 23) rfl rfl rfl (h.alloc _).drew (Rd.one _ _ _).drew (one1 rfl) (by omega) (by omega) (by simp; omega) ?_; intro A1 N1 c1 w1 ho1 hN1 hb1 hg1)
  have hor := hd_or u k Hk.out (by omega)
  rw [hor] at ho1
  have hg2 : Grew w w1 A A1 := (((Grew.refl w A).alloc _).drew).trans hg1
  have ho2 : Ow w1 base 5 A1 N1 c1 (xs ++ bv (UInt8.ofNat (hd u) :: tl u k 0)) := ho1
  have hz : base ≤ w1.heap.size := Nat.le_trans hB hg2.1.size
  clear ho1 hb1 hg1 hor hs
  go_wp2_with fail
  go_loopw [0, 26] (fun v i wr => ∃ A2 N2 c2, ∃ j : Nat, v = .slice A2 N2 c2 ∧ i = .int .i64 j ∧ j ≤ k ∧ N2 ≤ n + 1 + j ∧ Ow wr base 5 A2 N2 c2 (xs ++ bv (UInt8.ofNat (hd u) :: tl u k j)) ∧ Grew w wr A A2 ∧ base ≤ wr.heap.size)
    (fun _ i _ => k - (intOf i).toNat)
  case atStart => exact ⟨A1, N1, c1, 0, rfl, rfl, by omega, by omega, ho2, hg2, hz⟩
  case round =>
    obtain ⟨A2, N2, c2, j, rfl, rfl, hj, hN2, ho, hg, hb⟩ := hrel
    by_cases hlt : j < k
    · go_wp2_with (at_builtin; refine wp_app u8ty rfl (.tmp 29) (.tmp 38) rfl rfl rfl (ho.alloc _) (Rd.one _ _ _) (one1 rfl) (by omega) (by omega) (by simp; omega) ?_; intro A3 N3 c3 w3 ho3 hN3 hb3 hg3)
      rw [tl_val, List.append_assoc, show [Value.int .u8 ((UInt8.ofNat (u / 256 ^ (k - 1 - j))).toNat : Int)] = bv [UInt8.ofNat (u / 256 ^ (k - 1 - j))] from rfl, ← bv_app, List.cons_append, ← tl_snoc] at ho3
      have hg4 := (hg.alloc _).trans hg3
      have hb4 := Nat.le_trans hB hg4.1.size
      clear hg3 hb3
      go_roundw
      case rel => exact ⟨A3, N3, c3, j + 1, rfl, by go_num, by omega, by omega, ho3, hg4, hb4⟩
      case measure => simp [intOf]; omega
    · obtain rfl : j = k := by omega
      go_wp2
      go_ret
      refine ⟨_, _, _, rfl, ?_, hg⟩
      unfold numB
      rw [← Hk.out]
      exact ho
end Go.Proofs.YtbcgnacfhpahkaaDoor.oct
