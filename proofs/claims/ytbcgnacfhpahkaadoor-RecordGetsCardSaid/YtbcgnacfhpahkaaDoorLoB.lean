/- Contracts of octet.Number, Numbers, Text, Flag and of the document's Follow, Lead, Number, Text, Flag: each answers the bytes 'numB' behind those that were there. -/
import Derived.Test.YtbcgnacfhpahkaaDoorLoA
namespace Go.Proofs.YtbcgnacfhpahkaaDoor.oct
open Go.RowKit Mem OM

/-- 'put' of a number below 0. -/
theorem put_neg (A : Option Addr) (n c base : Nat) (x : Int) (xs : List Value) (w : World) (h : Ow w base 5 A n c xs) (hB : base ≤ w.heap.size) (hn : n ≤ 140737488351232) (h0 : -9223372036854775808 ≤ x) (h1 : x < 0) :
    Calls Tryd.prog 65 #[.slice A n c, .int .i64 x] w fun e w' => ∃ A' N c', e = .returned (.slice A' N c') ∧ Ow w' base 5 A' N c' (xs ++ bv (numB x.toNat)) ∧ Grew w w' A A' := by
  have hx : x.toNat = 0 := by omega
  have H0 := Lib.hid h0
  rw [hx]
  clear hx h0
  go_enter Tryd.func65, Tryd.ntmps65
  go_wp2_with fail
  · refine (follow_any _ _ (by omega) (by omega)).mono ?_
    rintro e w1 ⟨rfl, rfl⟩
    rw [show fol (Int.toNat 0) = 0 from by decide]
    go_wp2_with fail
    have hs : IntKind.i64.wrap 0 = 0 := by decide
    go_region_law (refine step_app u8ty rfl (.tmp 13) (.tmp 23) rfl rfl rfl (h.alloc _).drew (Rd.one _ _ _).drew (one1 rfl) (by omega) (by omega) (by simp; omega) ?_; intro A1 N1 c1 w1 ho1 hN1 hb1 hg1)
    have hor : bits BinOp.or IntKind.u8 (bits BinOp.xor IntKind.u8 (if IntKind.u8.signed = true then -1 else IntKind.u8.max) 255) (IntKind.u8.wrap 0) = 0 := by decide
    rw [hor] at ho1
    have hg2 : Grew w w1 A A1 := (((Grew.refl w A).alloc _).drew).trans hg1
    have ho2 : Ow w1 base 5 A1 N1 c1 (xs ++ bv (numB 0)) := ho1
    clear ho1 hb1 hg1 hor hs
    go_wp2_with fail
    go_loop [0, 26] (fun v i => v = .slice A1 N1 c1 ∧ i = .int .i64 0) (fun _ _ => 0)
    case atStart => exact ⟨rfl, rfl⟩
    case round =>
      obtain ⟨rfl, rfl⟩ := hrel
      go_wp2
      go_ret
      exact ⟨_, _, _, rfl, ho2, hg2⟩


theorem refLead_any (k : Int) (w : World) (h0 : 0 ≤ k) (h1 : k ≤ 8) :
    Calls Tryd.prog 68 #[.int .i64 k] w fun e w' => e = .returned (.int .i64 (lead k.toNat)) ∧ w = w' := by
  obtain ⟨k, rfl⟩ := Int.eq_ofNat_of_zero_le h0
  rw [Int.toNat_natCast]
  go_enter Tryd.func68, Tryd.ntmps68
  go_wp2
  go_loop [3, 4, 6] (fun x b i => ∃ j : Nat, ∃ X Y : Int, x = .int .i64 X ∧ b = .int .i64 Y ∧ i = .int .i64 j ∧ j ≤ k ∧ 0 ≤ X ∧ X ≤ 256 ∧ 0 ≤ Y ∧ Y ≤ 128 ∧ Hid (X = lead j ∧ Y = (128 / 2 ^ j : Nat))) (fun _ _ i => k - (intOf i).toNat)
  case atStart => exact ⟨0, 0, 128, rfl, rfl, rfl, by omega, by omega, by omega, by omega, by omega, (show _ ∧ _ from by decide)⟩
  case round =>
    obtain ⟨j, X, Y, rfl, rfl, rfl, hj, b1, b2, b3, b4, HE⟩ := hrel
    by_cases hlt : j < k
    · have hst : X + Y = lead (j + 1) ∧ Y / 2 = (128 / 2 ^ (j + 1) : Nat) := by
        obtain ⟨e1, e2⟩ := HE.out
        subst e1
        subst e2
        have hj8 : j < 8 := by omega
        match j, hj8 with
        | 0, _ => decide
        | 1, _ => decide
        | 2, _ => decide
        | 3, _ => decide
        | 4, _ => decide
        | 5, _ => decide
        | 6, _ => decide
        | 7, _ => decide
      have Hst := Lib.hid hst
      have hle : X + Y ≤ 256 := by
        have : lead (j + 1) ≤ 256 := Nat.sub_le _ _
        have := hst.1
        omega
      clear hst
      go_wp2
      go_round
      case rel => exact ⟨j + 1, X + Y, Y / 2, rfl, rfl, by go_num, by omega, by omega, by omega, by omega, by omega, Hst.out⟩
      case measure => simp [intOf]; omega
    · obtain rfl : j = k := by omega
      have he := HE.out.1
      go_wp2
      go_ret
      exact ⟨rfl, rfl⟩

theorem number_any (A : Option Addr) (n c B : Nat) (x : Int) (l : List UInt8) (w : World) (h : Rd w B A n (bv l)) (hB : B ≤ w.heap.size) (hn : n ≤ 140737488351232) (h0 : -9223372036854775808 ≤ x) (h1 : x ≤ 9223372036854775807) :
    Calls Tryd.prog 41 #[.slice A n c, .int .i64 x] w (Made w (l ++ numB x.toNat)) := by
  have Hl := Lib.hid h.len
  go_enter Tryd.func41, Tryd.ntmps41
  go_wp2_with fail
  refine (room_any _ _ _ _ 9 l _ h hB hn (by omega) (by omega)).mono ?_
  rintro e w1 ⟨A1, N1, c1, rfl, ho1, hb1⟩
  have hN : N1 ≤ n := by have := ho1.len; have := Hl.out; omega
  go_wp2_with fail
  by_cases hx : 0 ≤ x
  · refine (put_any _ _ _ _ x (bv l) _ ho1 hb1.size (by omega) hx h1).mono ?_
    rintro e w2 ⟨A2, N2, c2, rfl, ho2, hg2⟩
    go_wp2_with fail
    go_ret
    exact ⟨_, _, _, rfl, by rw [bv_app]; exact ho2, hb1.trans (hg2.below hb1.size fun k hk => (ho1.blk_lt k hk).1)⟩
  · refine (put_neg _ _ _ _ x (bv l) _ ho1 hb1.size (by omega) h0 (by omega)).mono ?_
    rintro e w2 ⟨A2, N2, c2, rfl, ho2, hg2⟩
    go_wp2_with fail
    go_ret
    exact ⟨_, _, _, rfl, by rw [bv_app]; exact ho2, hb1.trans (hg2.below hb1.size fun k hk => (ho1.blk_lt k hk).1)⟩

theorem refFollow_any (u : Int) (w : World) (h0 : 0 ≤ u) (h1 : u ≤ 9223372036854775807) :
    Calls Tryd.prog 67 #[.int .i64 u] w fun e w' => e = .returned (.int .i64 (fol u.toNat)) ∧ w = w' := by
  obtain ⟨u, rfl⟩ := Int.eq_ofNat_of_zero_le h0
  rw [Int.toNat_natCast]
  go_enter Tryd.func67, Tryd.ntmps67
  go_wp2
  go_loop [0, 3] (fun y i => ∃ k Y : Nat, k ≤ 8 ∧ i = .int .i64 k ∧ y = .int .i64 Y ∧ Y ≤ 9223372036854775807 ∧ Hid (Y = u / 128 ^ k ∧ ∀ j, j < k → pw j ≤ u)) (fun _ i => 8 - (intOf i).toNat)
  case atStart => exact ⟨0, u, by omega, rfl, rfl, by omega, by simp, fun j hj => by omega⟩
  case round =>
    obtain ⟨k, Y, hk, rfl, rfl, hY, HE⟩ := hrel
    by_cases hk8 : k < 8
    · by_cases hp : (0 : Int) < (Y : Int) / 128
      · have hst : Y / 128 = u / 128 ^ (k + 1) ∧ ∀ j, j < k + 1 → pw j ≤ u := by
          obtain ⟨e1, e2⟩ := HE.out
          have e3 : Y / 128 = u / 128 ^ (k + 1) := by rw [e1, Nat.pow_succ, Nat.div_div_eq_div_mul]
          refine ⟨e3, fun j hj => ?_⟩
          by_cases e : j = k
          · subst e
            have h3 : 0 < u / 128 ^ (j + 1) := by rw [← e3]; omega
            have h4 := (Nat.div_pos_iff.1 h3).2
            unfold pw
            rw [Nat.pow_mul]
            exact h4
          · exact e2 j (by omega)
        have Hst := Lib.hid hst
        clear hst
        go_wp2
        go_round
        case rel => exact ⟨k + 1, Y / 128, by omega, by go_num, by simp, by omega, Hst.out⟩
        case measure => simp [intOf]; omega
      · have hf : fol u = k := by
          obtain ⟨e1, e2⟩ := HE.out
          refine fol_eq u k hk e2 (Or.inr ?_)
          have e3 : Y / 128 = u / 128 ^ (k + 1) := by rw [e1, Nat.pow_succ, Nat.div_div_eq_div_mul]
          have h3 : u / 128 ^ (k + 1) = 0 := by rw [← e3]; omega
          unfold pw
          rw [Nat.pow_mul]
          exact (Nat.div_eq_zero_iff_lt (Nat.pow_pos (by omega))).1 h3
        have Hf := Lib.hid hf
        clear hf
        go_wp2
        go_ret
        exact ⟨ret_int (by rw [Hf.out]), rfl⟩
    · have hf : fol u = k := fol_eq u k hk HE.out.2 (Or.inl (by omega))
      have Hf := Lib.hid hf
      clear hf
      go_wp2
      go_ret
      exact ⟨ret_int (by rw [Hf.out]), rfl⟩

/-- the document's Number: the tail is made from its end -/
theorem refNumber_any (A : Option Addr) (n c B : Nat) (x : Int) (l : List UInt8) (w : World) (hrd : Rd w B A n (bv l)) (hB : B ≤ w.heap.size) (hn : n ≤ 140737488351232) (h0 : -9223372036854775808 ≤ x) (h1 : x ≤ 9223372036854775807) :
    Calls Tryd.prog 44 #[.slice A n c, .int .i64 x] w (Made w (l ++ numB x.toNat)) := by
  obtain ⟨u, hu⟩ : ∃ u, u = x.toNat := ⟨_, rfl⟩
  have hu1 : u ≤ 9223372036854775807 := by omega
  rw [← hu]
  have Hu := Lib.hid hu
  have H0 := Lib.hid h0
  clear h0 hu
  obtain ⟨k, hke⟩ : ∃ k, k = fol u := ⟨_, rfl⟩
  have hk : k ≤ 8 := by rw [hke]; exact fol_le u
  have Hk := Lib.hid hke
  clear hke
  go_enter Tryd.func44, Tryd.ntmps44
  go_wp2_with fail
  all_goals
    refine (refFollow_any _ _ (by omega) (by omega)).mono ?_
    rintro e w1 ⟨rfl, rfl⟩
    rw [show fol (Int.toNat _) = k from by (try rw [Hk.out, Hu.out]); first | done | rfl | (congr 1; omega)]
    go_wp2_with fail
    go_loopw [1, 6, 13] (fun y v i wr => ∃ A2 N2 c2, ∃ j Y : Nat, v = .slice A2 N2 c2 ∧ i = .int .i64 j ∧ j ≤ k ∧ N2 ≤ j ∧ y = .int .i64 Y ∧ Y ≤ 9223372036854775807 ∧ Hid (Y = u / 256 ^ j) ∧ Ow wr w.heap.size 5 A2 N2 c2 (bv (tl u j j)) ∧ Below w.heap.size w wr)
      (fun _ _ i _ => k - (intOf i).toNat)
    case atStart => exact ⟨none, 0, 0, 0, u, rfl, rfl, by omega, by omega, by have := Hu.out; first | rfl | (congr 1; omega), by omega, (by simp : u = u / 256 ^ 0), Ow.nil _ _ _, Below.refl _ _⟩
    case round =>
      obtain ⟨A2, N2, c2, j, Y, rfl, rfl, hj, hN2, rfl, hY, HY, ho, hb⟩ := hrel
      have hsz : w.heap.size ≤ wr.heap.size := hb.size
      by_cases hlt : j < k
      · have hr2 := ho.rd.below (w' := wr.alloc (.cells #[.int .u8 ((Y : Int) % 256)] 5)) ((Below.refl _ _).alloc (Nat.le_refl _) _) (Nat.le_refl _)
        have hl2 := Ow.lit1 wr 5 (.int .u8 ((Y : Int) % 256)) hsz
        go_wp2_with (at_builtin; refine wp_app u8ty rfl (.tmp 18) (.tmp 19) rfl rfl rfl hl2 hr2 (bv_one _) (by omega) (by omega) (by simp; omega) ?_; intro A3 N3 c3 w3 ho3 hN3 hb3 hg3)
        have hv := byte_val Y
        rw [hv, List.singleton_append, show ∀ (b : UInt8) (t : List UInt8), Value.int .u8 (b.toNat : Int) :: bv t = bv (b :: t) from fun _ _ => rfl, HY.out, ← tl_cons] at ho3
        have hb4 := ((hb.alloc hsz (.cells #[.int .u8 ((Y : Int) % 256)] 5))).trans hb3
        have hY2 : Hid (Y / 256 = u / 256 ^ (j + 1)) := (by rw [HY.out, Nat.pow_succ, Nat.div_div_eq_div_mul] : Y / 256 = u / 256 ^ (j + 1))
        clear hb3 hg3 hr2 hl2 hv
        have hN4 : N3 ≤ j + 1 := by omega
        go_roundw
        case rel => exact ⟨A3, N3, c3, j + 1, Y / 256, rfl, by go_num, by omega, hN4, by simp, by omega, hY2, ho3, hb4⟩
        case measure => simp [intOf]; omega
      · obtain rfl : j = k := by omega
        have hr2 := (hrd.below hb hB).below (w' := wr.alloc (.cells #[] 5)) ((Below.refl _ _).alloc (Nat.le_trans hB hsz) _) (Nat.le_refl _)
        have hl2 := Ow.lit0 wr 5 (Nat.le_refl wr.heap.size)
        have htl := ho.rd
        have hhd := hd_val u Y hu1 (by rw [← Hk.out]; exact HY.out)
        rw [← Hk.out] at hhd
        have Hhd := Lib.hid hhd
        have hlt2 : (lead j : Int) + (Y : Int) < 256 := by have := hhd.1; have := hhd.2; omega
        clear hhd
        go_wp2_with (first
          | (at_builtin; refine wp_app u8ty rfl (.tmp 24) (.tmp 25) rfl rfl rfl hl2 hr2 (bv_one _) (by omega) (by omega) (by simp) ?_; intro A3 N3 c3 w3 ho3 hN3 hb3 hg3; have hb3' : Below wr.heap.size wr w3 := ((Below.refl _ _).alloc (Nat.le_refl _) _).trans hb3; clear hb3)
          | (go_at_call 68; refine (refLead_any _ _ (by omega) (by omega)).mono ?_; rintro e w4 ⟨rfl, rfl⟩; rw [Int.toNat_natCast])
          | (at_builtin; refine wp_app u8ty rfl (.tmp 26) (.tmp 32) rfl rfl rfl (ho3.alloc _) (Rd.one _ _ _) (one1 rfl) (by omega) (by omega) (by simp; have := hb3'.size; omega) ?_; intro A4 N4 c4 w5 ho4 hN4 hb4 hg4; have hb4' : Below wr.heap.size wr w5 := (hb3'.alloc hb3'.size _).trans hb4; clear hb4)
          | (at_builtin; refine wp_app u8ty rfl (.tmp 34) (.tmp 35) rfl rfl rfl ho4 (htl.below hb4' (Nat.le_refl _)) (bv_one _) (by omega) (by omega) hb4'.size ?_; intro A5 N5 c5 w6 ho5 hN5 hb5 hg5))
        go_ret
        refine ⟨_, _, _, rfl, ?_, hb.trans ((hb4'.trans hb5).mono hsz)⟩
        have e : [] ++ bv l ++ [Value.int .u8 ((lead j : Int) + (Y : Int))] ++ bv (tl u j j) = bv (l ++ numB u) := by
          have hv := Hhd.out
          have e2 : ((lead j : Int) + (Y : Int)) = ((UInt8.ofNat (hd u)).toNat : Int) := by
            rw [UInt8.toNat_ofNat_of_lt' (show hd u < UInt8.size from hv.2)]
            omega
          rw [e2]
          unfold numB
          rw [← Hk.out]
          simp [bv]
        rw [e] at ho5
        exact ho5.base hsz

theorem put_all (A : Option Addr) (n c base : Nat) (x : Int) (xs : List Value) (w : World) (h : Ow w base 5 A n c xs) (hB : base ≤ w.heap.size) (hn : n ≤ 140737488351232) (h0 : -9223372036854775808 ≤ x) (h1 : x ≤ 9223372036854775807) :
    Calls Tryd.prog 65 #[.slice A n c, .int .i64 x] w fun e w' => ∃ A' N c', e = .returned (.slice A' N c') ∧ Ow w' base 5 A' N c' (xs ++ bv (numB x.toNat)) ∧ Grew w w' A A' := by
  by_cases hx : 0 ≤ x
  · exact put_any A n c base x xs w h hB hn hx h1
  · exact put_neg A n c base x xs w h hB hn h0 (by omega)

end Go.Proofs.YtbcgnacfhpahkaaDoor.oct
