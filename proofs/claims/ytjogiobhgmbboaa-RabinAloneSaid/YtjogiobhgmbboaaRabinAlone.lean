/- RabinAlone: for every input the law answers true and leaves its arguments as they were. -/
import Derived.Test.YtjogiobhgmbboaaRows
import Derived.Test.YtjogiobhgmbboaaRbM
import Derived.ProofKit
import Derived.OpenShut
import Derived.ShutString
import Derived.ChangeOld
namespace Go.Proofs.Ytjogiobhgmbboaa.rabinAloneDone
open Go.RowKit Mem rb
set_option linter.unusedVariables false
/-- a roller goes over bytes: what it is behind them -/
theorem last16_app (l r : List UInt8) (h : 16 ≤ r.length) : last16 (l ++ r) = last16 r := by
  have key : ∀ x : List UInt8, 16 ≤ x.length → last16 x = x.drop (x.length - 16) := by
    intro x hx
    unfold last16
    rw [List.drop_append, show nought.length = 16 by simp [nought]]
    have : List.drop x.length nought = [] := List.drop_eq_nil_of_le (by simp [nought]; omega)
    rw [this, List.nil_append]
  rw [key _ (by rw [List.length_append]; omega), key _ h, List.drop_append, List.length_append]
  have : List.drop (l.length + r.length - 16) l = [] := List.drop_eq_nil_of_le (by omega)
  rw [this, List.nil_append]
  congr 1; omega
/-- two rollers of one table -/
def Two (W : World) (r1 r2 b q : Nat) (x1 x2 : List UInt8) (w : World) : Prop := RolS w r1 b q x1 ∧ RolS w r2 b q x2 ∧ TabB w b q 1 0 (AV q) (FV q) ∧ Below W.heap.size W w ∧ r1 ≠ b ∧ r2 ≠ b ∧ r1 ≠ r2 ∧ W.heap.size ≤ r1 ∧ W.heap.size ≤ r2
theorem Two.one {W w w' : World} {r1 r2 b q : Nat} {x1 x2 y : List UInt8} (h : Two W r1 r2 b q x1 x2 w) (hr : RolS w' r1 b q y) (hg : Grown r1 w w') : Two W r1 r2 b q y x2 w' := by
  obtain ⟨h1, h2, h3, h4, h5, h6, h7, h8, h9⟩ := h
  exact ⟨hr, h2.grown hg (fun e => h7 e.symm), h3.grown hg (fun e => h5 e.symm), below_of_grown' h4 hg ⟨h8, h4.size⟩, h5, h6, h7, h8, h9⟩
theorem Two.two {W w w' : World} {r1 r2 b q : Nat} {x1 x2 y : List UInt8} (h : Two W r1 r2 b q x1 x2 w) (hr : RolS w' r2 b q y) (hg : Grown r2 w w') : Two W r1 r2 b q x1 y w' := by
  obtain ⟨h1, h2, h3, h4, h5, h6, h7, h8, h9⟩ := h
  exact ⟨h1.grown hg h7, hr, h3.grown hg (fun e => h6 e.symm), below_of_grown' h4 hg ⟨h9, h4.size⟩, h5, h6, h7, h8, h9⟩
theorem walk (p : Int) (A1 : Option Addr) (n1 c1 : Nat) (l1 : List UInt8) (A2 : Option Addr) (n2 c2 : Nat) (l2 : List UInt8) (A3 : Option Addr) (n3 c3 : Nat) (l3 : List UInt8) (w : World) (hp : (Lit.int .u64 p).wf = true) (hr1 : Rd w w.heap.size A1 n1 (bv l1)) (hc1 : n1 ≤ c1) (hn1 : n1 ≤ 9223372036854775807) (hr2 : Rd w w.heap.size A2 n2 (bv l2)) (hc2 : n2 ≤ c2) (hn2 : n2 ≤ 9223372036854775807) (hr3 : Rd w w.heap.size A3 n3 (bv l3)) (hc3 : n3 ≤ c3) (hn3 : n3 ≤ 9223372036854775807) :
    Calls Try.prog 13 #[.int .u64 p, .slice A1 n1 c1, .slice A2 n2 c2, .slice A3 n3 c3] w fun e w' => e = .returned (.bool true) ∧ Below w.heap.size w w' := by
  replace hp := u64_nat hp
  obtain ⟨p, rfl, hp⟩ := hp
  by_cases hlong : 8192 < n1 ∨ 8192 < n2 ∨ 8192 < n3 ∨ n3 < 16
  · have key : ∀ (h1 : Bool) (h2 : Bool) (h3 : Bool) (h4 : Bool), decide (8192 < (n1 : Int)) = h1 → decide (8192 < (n2 : Int)) = h2 → decide (8192 < (n3 : Int)) = h3 → decide ((n3 : Int) < 16) = h4 → (h1 || h2 || h3 || h4) = true →
        Calls Try.prog 13 #[.int .u64 (p : Nat), .slice A1 n1 c1, .slice A2 n2 c2, .slice A3 n3 c3] w fun e w' => e = .returned (.bool true) ∧ Below w.heap.size w w' := by
      intro h1 h2 h3 h4 e1 e2 e3 e4 ho
      clear hlong
      cases h1 <;> cases h2 <;> cases h3 <;> cases h4 <;> first
        | (exfalso; revert ho; decide)
        | (simp only [decide_eq_true_eq, decide_eq_false_iff_not] at e1 e2 e3 e4
           go_enter Try.func13, Try.ntmps13
           go_wp2_with (go_at_call 19; refine (awake_any _).mono ?_; rintro e w4 ⟨rfl, hb4⟩)
           go_ret
           exact ⟨rfl, hb4⟩)
    refine key _ _ _ _ rfl rfl rfl rfl ?_
    rcases hlong with h | h | h | h
    · rw [decide_eq_true (by omega : (8192 : Int) < (n1 : Int))]; simp
    · rw [decide_eq_true (by omega : (8192 : Int) < (n2 : Int))]; simp
    · rw [decide_eq_true (by omega : (8192 : Int) < (n3 : Int))]; simp
    · rw [decide_eq_true (by omega : (n3 : Int) < (16 : Int))]; simp
  · have m1 : ¬ 8192 < n1 := by omega
    have m2 : ¬ 8192 < n2 := by omega
    have m3 : ¬ 8192 < n3 := by omega
    have m4 : ¬ n3 < 16 := by omega
    have hg := tq_good p
    have hq := good_log hg
    have hT := fresh_tab (tq p) w
    have hb : Below w.heap.size w (w.alloc (.cells (freshT (tq p)) 64)) := (Below.refl _ w).alloc (Nat.le_refl _) _
    have hsz : (w.alloc (.cells (freshT (tq p)) 64)).heap.size = w.heap.size + 1 := by simp
    have HT := fun w => Lib.hid (table_any p w hp)
    obtain ⟨q, hqd⟩ : ∃ q, tq p = q := ⟨_, rfl⟩
    unfold TablePost at HT
    rw [hqd] at hq hT hb hsz HT
    clear hqd hg hlong
    have HS := Lib.hid (And.intro hb hsz)
    clear hb hsz
    have N1 := Lib.hid (show l1.length = n1 by rw [← bv_len, hr1.len])
    have N2 := Lib.hid (show l2.length = n2 by rw [← bv_len, hr2.len])
    have N3 := Lib.hid (show l3.length = n3 by rw [← bv_len, hr3.len])
    go_enter Try.func13, Try.ntmps13
    go_wp2_with fail
    refine (HT w).out.mono ?_
    rintro e w1 ⟨rfl, hw1⟩
    rw [← hw1] at hT HS
    clear hw1 HT
    have s1 := HS.out.2
    have HB1 := Lib.hid HS.out.1
    clear HS
    go_wp2_with fail
    refine (roll_any w.heap.size q _ hq (Or.inl hT)).mono ?_
    rintro e w2 ⟨r1, rfl, hrw1, hR1, hT2, hG2⟩
    have hlt1 := hR1.lt
    go_wp2_with fail
    refine (roll_any w.heap.size q _ hq (Or.inr hT2)).mono ?_
    rintro e w3 ⟨r2, rfl, hrw2, hR2, hT3, hG3⟩
    have hT0 : Two w r1 r2 w.heap.size q (last16 (l1.take 0)) (last16 (l2.take 0)) w3 := by
      rw [List.take_zero, List.take_zero, last16_nil]
      refine ⟨RolS.start hq (hR1.grown hG3 (by omega)), RolS.start hq hR2, hT3, below_of_grown' (below_of_grown' HB1.out hG2 ⟨Nat.le_refl _, by omega⟩) hG3 ⟨Nat.le_refl _, by have := hG2.size; omega⟩, by omega, by omega, by omega, by omega, by omega⟩
    clear hR1 hR2 hT2 hT3 hG2 hG3 HB1 hT hrw1 hrw2 hlt1 s1
    go_wp2_with fail
    go_loopw [14, 51, 52, 53, 54, 55, 56, 57, 58] (fun _ v _ _ _ _ _ _ _ wr => ∃ k : Nat, v = .int .i64 (k : Nat) ∧ k ≤ n1 ∧ Two w r1 r2 w.heap.size q (last16 (l1.take k)) (last16 (l2.take 0)) wr) (fun _ v _ _ _ _ _ _ _ _ => n1 - (intOf v).toNat)
    case atStart => exact ⟨0, rfl, by omega, hT0⟩
    case round =>
      obtain ⟨k, rfl, hk, h2⟩ := hrel
      by_cases hlt : k < n1
      · have hkl : k < l1.length := by have := N1.out; omega
        have hb4 := h2.2.2.2.1
        obtain ⟨b1, o1, rfl, hb1, hcell⟩ := (hr1.below hb4 (Nat.le_refl _)).at_ hlt
        rw [bv_at l1 k hkl] at hcell
        obtain ⟨x, hx⟩ : ∃ x, x = l1[k] := ⟨_, rfl⟩
        rw [← hx] at hcell
        have hs : (last16 (l1.take k)).drop 1 ++ [x] = last16 (l1.take (k + 1)) := by rw [take_snoc8 l1 k hkl, last16_snoc, hx]
        have HSN := Lib.hid hs
        clear hs hx
        have hk1 : (k : Int) < (n1 : Int) := by omega
        have hN := next_s (last16 (l1.take k)) x wr hq h2.2.2.1 h2.1 h2.2.2.2.2.1
        have HN := Lib.hid hN
        clear hN
        go_wp2_with (go_at_call 35; refine HN.out.mono ?_; rintro e w5 ⟨rfl, hS5, hG5⟩)
        have h5 := h2.one hS5 hG5
        rw [HSN.out] at h5
        go_roundw
        case rel => exact ⟨k + 1, by go_num, by omega, h5⟩
        case measure => simp only [intOf]; omega
      · obtain rfl : k = n1 := by omega
        have e1 : l1.take k = l1 := List.take_of_length_le (by have := N1.out; omega)
        rw [e1] at h2
        clear e1
        go_wp2_with fail
        go_loopw [16, 61, 62, 63, 64, 65, 66, 67, 68] (fun _ v _ _ _ _ _ _ _ wr => ∃ j : Nat, v = .int .i64 (j : Nat) ∧ j ≤ n2 ∧ Two w r1 r2 w.heap.size q (last16 l1) (last16 (l2.take j)) wr) (fun _ v _ _ _ _ _ _ _ _ => n2 - (intOf v).toNat)
        case atStart => exact ⟨0, rfl, by omega, h2⟩
        case round =>
          obtain ⟨j, rfl, hj, h3⟩ := hrel
          by_cases hlt2 : j < n2
          · have hjl : j < l2.length := by have := N2.out; omega
            have hb4 := h3.2.2.2.1
            obtain ⟨b1, o1, rfl, hb1, hcell⟩ := (hr2.below hb4 (Nat.le_refl _)).at_ hlt2
            rw [bv_at l2 j hjl] at hcell
            obtain ⟨x, hx⟩ : ∃ x, x = l2[j] := ⟨_, rfl⟩
            rw [← hx] at hcell
            have hs : (last16 (l2.take j)).drop 1 ++ [x] = last16 (l2.take (j + 1)) := by rw [take_snoc8 l2 j hjl, last16_snoc, hx]
            have HSN := Lib.hid hs
            clear hs hx
            have hk1 : (j : Int) < (n2 : Int) := by omega
            have hN := next_s (last16 (l2.take j)) x wr hq h3.2.2.1 h3.2.1 h3.2.2.2.2.2.1
            have HN := Lib.hid hN
            clear hN
            go_wp2_with (go_at_call 35; refine HN.out.mono ?_; rintro e w5 ⟨rfl, hS5, hG5⟩)
            have h5 := h3.two hS5 hG5
            rw [HSN.out] at h5
            go_roundw
            case rel => exact ⟨j + 1, by go_num, by omega, h5⟩
            case measure => simp only [intOf]; omega
          · obtain rfl : j = n2 := by omega
            have e1 : l2.take j = l2 := List.take_of_length_le (by have := N2.out; omega)
            rw [e1] at h3
            clear e1
            have h3' : Two w r1 r2 w.heap.size q (last16 (l1 ++ l3.take 0)) (last16 (l2 ++ l3.take 0)) wr := by simpa using h3
            clear h3
            go_wp2_with fail
            go_loopw [17, 18, 19, 20, 71, 72, 73, 74, 75, 76, 77, 78, 79, 80, 81, 82, 83, 84, 85, 86, 87, 88, 89] (fun _ _ _ _ v _ _ _ _ _ _ _ _ _ _ _ _ _ _ _ _ _ _ wr => ∃ i : Nat, v = .int .i64 (i : Nat) ∧ i ≤ n3 ∧ Two w r1 r2 w.heap.size q (last16 (l1 ++ l3.take i)) (last16 (l2 ++ l3.take i)) wr) (fun _ _ _ _ v _ _ _ _ _ _ _ _ _ _ _ _ _ _ _ _ _ _ _ => n3 - (intOf v).toNat)
            case atStart => exact ⟨0, rfl, by omega, h3'⟩
            case round =>
              obtain ⟨i, rfl, hi, h4⟩ := hrel
              by_cases hlt3 : i < n3
              · have hil : i < l3.length := by have := N3.out; omega
                have hb4 := h4.2.2.2.1
                obtain ⟨b1, o1, rfl, hb1, hcell⟩ := (hr3.below hb4 (Nat.le_refl _)).at_ hlt3
                rw [bv_at l3 i hil] at hcell
                obtain ⟨x, hx⟩ : ∃ x, x = l3[i] := ⟨_, rfl⟩
                rw [← hx] at hcell
                have t1 : (last16 (l1 ++ l3.take i)).drop 1 ++ [x] = last16 (l1 ++ l3.take (i + 1)) := by rw [take_snoc8 l3 i hil, ← List.append_assoc, last16_snoc, hx]
                have t2 : (last16 (l2 ++ l3.take i)).drop 1 ++ [x] = last16 (l2 ++ l3.take (i + 1)) := by rw [take_snoc8 l3 i hil, ← List.append_assoc, last16_snoc, hx]
                have hN := next_s (last16 (l1 ++ l3.take i)) x wr hq h4.2.2.1 h4.1 h4.2.2.2.2.1
                have hM := fun wz (hz : Two w r1 r2 w.heap.size q (last16 (l1 ++ l3.take (i + 1))) (last16 (l2 ++ l3.take i)) wz) => next_s (last16 (l2 ++ l3.take i)) x wz hq hz.2.2.1 hz.2.1 hz.2.2.2.2.2.1
                rw [t1] at hN
                simp only [t2] at hM
                have hq1 : 15 ≤ i → fp q (last16 (l1 ++ l3.take (i + 1))) = fp q (last16 (l2 ++ l3.take (i + 1))) := fun h => by
                  rw [last16_app _ _ (by rw [List.length_take]; omega), last16_app l2 _ (by rw [List.length_take]; omega)]
                have f1 := fp_low hq (last16 (l1 ++ l3.take (i + 1))) 0 (by decide)
                have hk1 : (i : Int) < (n3 : Int) := by omega
                have H4 := Lib.hid h4
                clear t1 t2 hx h4
                obtain ⟨y1, hy1⟩ : ∃ y, y = fp q (last16 (l1 ++ l3.take (i + 1))) := ⟨_, rfl⟩
                obtain ⟨y2, hy2⟩ : ∃ y, y = fp q (last16 (l2 ++ l3.take (i + 1))) := ⟨_, rfl⟩
                rw [← hy1] at hN
                simp only [← hy2] at hM
                rw [← hy1, ← hy2] at hq1
                have HN := Lib.hid hN
                have HM := Lib.hid hM
                clear hN hM f1 hy1 hy2
                by_cases c15 : 15 ≤ i
                · obtain rfl := hq1 c15
                  have c2 : (15 : Int) ≤ (i : Int) := by omega
                  clear hq1
                  go_wp2_with fail
                  refine HN.out.mono ?_
                  rintro e w5 ⟨rfl, hS5, hG5⟩
                  have h5 := H4.out.one hS5 hG5
                  clear hS5 hG5
                  go_wp2_with fail
                  refine (HM.out _ h5).mono ?_
                  rintro e w6 ⟨rfl, hS6, hG6⟩
                  have h6 := h5.two hS6 hG6
                  clear hS6 hG6 h5
                  go_wp2_with fail
                  go_roundw
                  case rel => exact ⟨i + 1, by go_num, by omega, h6⟩
                  case measure => simp only [intOf]; omega
                · have c2 : ¬ (15 : Int) ≤ (i : Int) := by omega
                  clear hq1
                  go_wp2_with fail
                  refine HN.out.mono ?_
                  rintro e w5 ⟨rfl, hS5, hG5⟩
                  have h5 := H4.out.one hS5 hG5
                  clear hS5 hG5
                  go_wp2_with fail
                  refine (HM.out _ h5).mono ?_
                  rintro e w6 ⟨rfl, hS6, hG6⟩
                  have h6 := h5.two hS6 hG6
                  clear hS6 hG6 h5
                  go_wp2_with fail
                  go_roundw
                  case rel => exact ⟨i + 1, by go_num, by omega, h6⟩
                  case measure => simp only [intOf]; omega
              · have hbe := h4.2.2.2.1
                clear h4
                go_wp2_with (go_at_call 19; refine (awake_any _).mono ?_; rintro e w9 ⟨rfl, hb9⟩)
                go_ret
                exact ⟨rfl, hbe.trans (hb9.mono hbe.size)⟩
end Go.Proofs.Ytjogiobhgmbboaa.rabinAloneDone
namespace Go.Proofs.Ytjogiobhgmbboaa.rabinAloneDone
open Go.ChangeShapes Go.WideShapes Go.ChangeAt Go.RowKit Mem rb
set_option linter.unusedVariables false
theorem own : ownKnob Try.prog.godebug = none := by kernel_rfl
theorem laidOut : laidOutB Try.prog = true := by kernel_rfl
set_option maxRecDepth 100000 in
theorem lifted (os : Os) (started : os.Started) (H : Type) (enc : TypeId × Value → H) :
    ReturnsInHanded {} Try.checked os 13 .any (Rows.rabinAloneSpec.pre6 enc Try.prog Try.f13 Rows.rabinAloneRow.domain false) (Rows.rabinAloneSpec.post enc Try.prog Try.f13 false true false false) := by
  refine returnsInHanded_of_change (C := Try.checked) own started (by kernel_rfl) Try.func13
    (ChangeSpec.witness6 (enc := enc) (C := Try.checked) false ⟨#[], #[.int .u64 0, .slice none 0 0, .slice none 0 0, .slice none 0 0], []⟩ 8 (by kernel_rfl) (by kernel_rfl) (by kernel_rfl) (by kernel_rfl)) ?_
  intro W base args ds gs before hval0 hW hcnd _
  have hval : ∀ (j : Nat) t v, Try.f13.params[j]? = some t → args[j]? = some v → Value.okWide Try.prog W .any base t v := hval0
  have hW' := hW
  obtain ⟨p, q, hA0, hV, rfl, hfz, hnd⟩ := hW
  have hA : DataW.TrodAll enc Try.prog W 0 (fun _ => true) true Try.f13.params.toList args.toList ds p := hA0
  rw [Try.params13] at hA hval
  obtain ⟨v0, vs0, d0, ds0, p0, q0, hargs, rfl, rfl, h0, r0⟩ := trodAll_cons hA
  obtain ⟨v1, vs1, d1, ds1, p1, q1, rfl, rfl, rfl, h1, r1⟩ := trodAll_cons r0
  obtain ⟨v2, vs2, d2, ds2, p2, q2, rfl, rfl, rfl, h2, r2⟩ := trodAll_cons r1
  obtain ⟨v3, vs3, d3, ds3, p3, q3, rfl, rfl, rfl, h3, r3⟩ := trodAll_cons r2
  obtain ⟨rfl, rfl, rfl⟩ := trodAll_nil r3
  obtain rfl : args = #[v0, v1, v2, v3] := by cases args; simp_all
  obtain ⟨rfl, rfl⟩ := trodVars_none hV
  obtain ⟨a0, rfl, rfl, rfl, w0⟩ := open_int Try.underlying22 (hval 0 22 v0 rfl rfl) h0
  obtain ⟨a1, n1, c1, rfl⟩ := okWide_slice Try.underlying34 (hval 1 34 v1 rfl rfl)
  have k1 := h1
  have lt1 : ∀ x ∈ p1, x.block < W.heap.size := by obtain ⟨m, hm⟩ := k1; exact DataW.trod_lt m _ _ _ hm
  obtain ⟨l1, w1, m1, b1⟩ : ∃ l : List UInt8, Rd W W.heap.size a1 n1 (bv l) ∧ n1 ≤ c1 ∧ n1 ≤ 9223372036854775807 := by
    obtain ⟨fuel, hf⟩ := h1
    rcases open_ints Try.underlying34 Try.underlying5 (by kernel_rfl) hf with ⟨hcs, _⟩ | ⟨x, l, c, zs, hcs, _, hl, hm, hz, _, hcell, hwz⟩
    · simp [Value.cells] at hcs
      obtain ⟨rfl, rfl, rfl⟩ := hcs
      exact ⟨[], Rd.nil _ _ _, Nat.le_refl _, by omega⟩
    · simp [Value.cells] at hcs
      obtain ⟨rfl, rfl, rfl⟩ := hcs
      unfold maxLen at hm
      obtain ⟨l, hl2⟩ := rd_bytes hl (by simpa using hz) hcell hwz
      exact ⟨l, hl2, hl, by omega⟩
  obtain ⟨a2, n2, c2, rfl⟩ := okWide_slice Try.underlying34 (hval 2 34 v2 rfl rfl)
  have k2 := h2
  have lt2 : ∀ x ∈ p2, x.block < W.heap.size := by obtain ⟨m, hm⟩ := k2; exact DataW.trod_lt m _ _ _ hm
  obtain ⟨l2, w2, m2, b2⟩ : ∃ l : List UInt8, Rd W W.heap.size a2 n2 (bv l) ∧ n2 ≤ c2 ∧ n2 ≤ 9223372036854775807 := by
    obtain ⟨fuel, hf⟩ := h2
    rcases open_ints Try.underlying34 Try.underlying5 (by kernel_rfl) hf with ⟨hcs, _⟩ | ⟨x, l, c, zs, hcs, _, hl, hm, hz, _, hcell, hwz⟩
    · simp [Value.cells] at hcs
      obtain ⟨rfl, rfl, rfl⟩ := hcs
      exact ⟨[], Rd.nil _ _ _, Nat.le_refl _, by omega⟩
    · simp [Value.cells] at hcs
      obtain ⟨rfl, rfl, rfl⟩ := hcs
      unfold maxLen at hm
      obtain ⟨l, hl2⟩ := rd_bytes hl (by simpa using hz) hcell hwz
      exact ⟨l, hl2, hl, by omega⟩
  obtain ⟨a3, n3, c3, rfl⟩ := okWide_slice Try.underlying34 (hval 3 34 v3 rfl rfl)
  have k3 := h3
  have lt3 : ∀ x ∈ p3, x.block < W.heap.size := by obtain ⟨m, hm⟩ := k3; exact DataW.trod_lt m _ _ _ hm
  obtain ⟨l3, w3, m3, b3⟩ : ∃ l : List UInt8, Rd W W.heap.size a3 n3 (bv l) ∧ n3 ≤ c3 ∧ n3 ≤ 9223372036854775807 := by
    obtain ⟨fuel, hf⟩ := h3
    rcases open_ints Try.underlying34 Try.underlying5 (by kernel_rfl) hf with ⟨hcs, _⟩ | ⟨x, l, c, zs, hcs, _, hl, hm, hz, _, hcell, hwz⟩
    · simp [Value.cells] at hcs
      obtain ⟨rfl, rfl, rfl⟩ := hcs
      exact ⟨[], Rd.nil _ _ _, Nat.le_refl _, by omega⟩
    · simp [Value.cells] at hcs
      obtain ⟨rfl, rfl, rfl⟩ := hcs
      unfold maxLen at hm
      obtain ⟨l, hl2⟩ := rd_bytes hl (by simpa using hz) hcell hwz
      exact ⟨l, hl2, hl, by omega⟩
  clear hA0 hval0
  refine (walk a0 a1 n1 c1 l1 a2 n2 c2 l2 a3 n3 c3 l3 W w0 w1 m1 b1 w2 m2 b2 w3 m3 b3).mono fun e W' ⟨he, bel⟩ => ?_
  subst he
  exact ⟨_, rfl, _, _, _, [], _, [], hW', trodAll_mk1 (shut_bool Try.underlying4 _), (trodAll_cons_mk (shut_int Try.underlying22 w0) (trodAll_cons_mk (Below.trod laidOut (by kernel_rfl) (of_decide_eq_true (by kernel_rfl)) k1 bel lt1) (trodAll_cons_mk (Below.trod laidOut (by kernel_rfl) (of_decide_eq_true (by kernel_rfl)) k2 bel lt2) (trodAll_cons_mk (Below.trod laidOut (by kernel_rfl) (of_decide_eq_true (by kernel_rfl)) k3 bel lt3) trodAll_mk0)))), rfl, bel.frame _, fun h => by cases h⟩

theorem over : Rows.rabinAloneRow.holds Try.pinned (OpenSpec.ofChange Rows.rabinAloneSpec) :=
  OpenClaim.holds_of_wide 13 Try.f13 rfl rfl rfl rfl rfl rfl rfl ⟨rfl, rfl, rfl, rfl, rfl⟩ rfl rfl rfl rfl rfl (by kernel_rfl) Try.func13 (by kernel_rfl)
    (of_decide_eq_true (by kernel_rfl)) (by unfold Func.isWrapper; first | (rw [if_pos (by decide +kernel)]; kernel_rfl) | (rw [if_neg (by decide +kernel)]; exact ⟨rfl, rfl⟩))
    (fun os started H enc _ => lifted os started H enc)
/-- the given statement -/
theorem proved : Rows.RabinAloneSaid := over
#print axioms proved
end Go.Proofs.Ytjogiobhgmbboaa.rabinAloneDone
