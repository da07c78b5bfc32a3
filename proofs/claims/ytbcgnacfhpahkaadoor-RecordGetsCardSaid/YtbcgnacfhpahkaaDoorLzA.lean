/- lz: a token's head, and its bytes. -/
import Derived.Test.YtbcgnacfhpahkaaDoorLoR
import Derived.Test.YtbcgnacfhpahkaaDoorLzMath
import Derived.Lib.MinMax
namespace Go.Proofs.YtbcgnacfhpahkaaDoor.lz
open Go.RowKit Mem OM LM oct
set_option linter.unusedVariables false
attribute [local go_sem] Oper.semAt_some
def HeadPost (b : Nat) (x : UInt8) (t : List UInt8) (there : Nat) (w : World) (e : Ending) (w' : World) : Prop :=
  e = .returned (.tuple #[.int .i64 ((headR x t there).1 : Nat), .int .i64 ((headR x t there).2.1 : Nat), .int .i64 ((headR x t there).2.2.2 : Nat)]) ∧ Rdr w' b (t.drop (headR x t there).2.2.1) ∧ Keep1 w w' b
theorem min_nat (m n : Nat) : min (m : Int) (n : Int) = ((min m n : Nat) : Int) := by omega
set_option maxRecDepth 50000 in
theorem head_any (b : Nat) (x : UInt8) (t : List UInt8) (there : Nat) (w : World) (h : Rdr w b (x :: t)) (ht : there ≤ 1152921504606846976) :
    Calls Tryd.prog 85 #[.pointer (some ⟨b, 0, none⟩), .int .i64 (there : Nat)] w (HeadPost b x t there w) := by
  have hB := byte_r b (x :: t) w h
  unfold HeadPost headR
  have hm : min (512 : Int) (there : Int) = ((min 512 there : Nat) : Int) := min_nat 512 there
  obtain ⟨mn, hmn⟩ : ∃ mn, min 512 there = mn := ⟨_, rfl⟩
  rw [hmn] at hm ⊢
  have hx := x.toNat_lt
  have hW := fun w1 h1 => within_r b t 1 (mn : Int) w1 h1
  have hin : inR t 1 (mn : Int) = withinR t 1 (mn : Int) := rfl
  obtain ⟨q1, q2, q3, q4⟩ := lk_size t
  have hwl : (withinR t 1 (mn : Int)).1 ≤ 9223372036854775807 := by unfold withinR; split <;> simp [q2]
  unfold BytePost byteR at hB
  simp only [List.drop_one, List.tail_cons] at hB
  have HB := Lib.hid hB
  have HW := Lib.hid hW
  have HL := Lib.hid h.len
  clear hB hW h q1 q2 q3 q4 hmn
  rw [hin]
  clear hin
  generalize hq : withinR t 1 (mn : Int) = q at *
  obtain ⟨n, s, er⟩ := q
  have HQ := Lib.hid hq
  clear hq
  simp only at *
  by_cases h1 : x.toNat < 128
  · rw [if_pos h1]
    have h1i : ((x.toNat : Nat) : Int) < 128 := by omega
    by_cases h2 : t.length < x.toNat + 1
    · rw [if_pos h2]
      have h2i : ((t.length : Nat) : Int) < (x.toNat : Int) + 1 := by omega
      clear hm HW
      go_enter Tryd.func85, Tryd.ntmps85
      go_wp2_with (first
        | (go_at_call 71; refine (HB.out).mono ?_; rintro e w1 ⟨rfl, hr1, hk1⟩; have HR := Lib.hid hr1; have HK := Lib.hid hk1; clear hr1 hk1)
        | (go_at_call 84; refine (left_any b t _ HR.out).mono ?_; rintro e w2 ⟨rfl, rfl⟩)
        | fail)
      go_ret3
      exact ⟨rfl, HR.out, HK.out⟩
    · rw [if_neg h2]
      have h2i : ¬ ((t.length : Nat) : Int) < (x.toNat : Int) + 1 := by omega
      clear hm HW
      go_enter Tryd.func85, Tryd.ntmps85
      go_wp2_with (first
        | (go_at_call 71; refine (HB.out).mono ?_; rintro e w1 ⟨rfl, hr1, hk1⟩; have HR := Lib.hid hr1; have HK := Lib.hid hk1; clear hr1 hk1)
        | (go_at_call 84; refine (left_any b t _ HR.out).mono ?_; rintro e w2 ⟨rfl, rfl⟩)
        | fail)
      go_ret3
      exact ⟨rfl, HR.out, HK.out⟩
  · rw [if_neg h1]
    have h1i : ¬ ((x.toNat : Nat) : Int) < 128 := by omega
    by_cases h2 : er = 2
    · rw [if_pos h2]
      subst h2
      go_enter Tryd.func85, Tryd.ntmps85
      go_wp2_with (first
        | (go_at_call 71; refine (HB.out).mono ?_; rintro e w1 ⟨rfl, hr1, hk1⟩; have HR := Lib.hid hr1; have HK := Lib.hid hk1; clear hr1 hk1)
        | (go_at_call 94; refine (HW.out _ HR.out).mono ?_; rintro e w2 ⟨rfl, hr2, hk2⟩; have HR2 := Lib.hid hr2; have HK2 := Lib.hid hk2; clear hr2 hk2; rw [HQ.out])
        | fail)
      go_ret3
      have := HR2.out
      rw [HQ.out] at this
      exact ⟨rfl, this, HK.out.trans HK2.out⟩
    · rw [if_neg h2]
      have h2i : ¬ ((er : Nat) : Int) = 2 := by omega
      by_cases h3 : er = 0
      · subst h3
        by_cases h4 : 66 < x.toNat - 125
        · rw [if_pos (Or.inr h4)]
          have h4i : (66 : Int) < (x.toNat : Int) - 125 := by omega
          go_enter Tryd.func85, Tryd.ntmps85
          go_wp2_with (first
            | (go_at_call 71; refine (HB.out).mono ?_; rintro e w1 ⟨rfl, hr1, hk1⟩; have HR := Lib.hid hr1; have HK := Lib.hid hk1; clear hr1 hk1)
            | (go_at_call 94; refine (HW.out _ HR.out).mono ?_; rintro e w2 ⟨rfl, hr2, hk2⟩; have HR2 := Lib.hid hr2; have HK2 := Lib.hid hk2; clear hr2 hk2; rw [HQ.out])
            | fail)
          go_ret3
          have := HR2.out
          rw [HQ.out] at this
          exact ⟨rfl, this, HK.out.trans HK2.out⟩
        · rw [if_neg (by omega)]
          have h4i : ¬ (66 : Int) < (x.toNat : Int) - 125 := by omega
          have h5 : (x.toNat : Int) - 125 = ((x.toNat - 125 : Nat) : Int) := by omega
          have H5 := Lib.hid h5
          clear h5
          go_enter Tryd.func85, Tryd.ntmps85
          go_wp2_with (first
            | (go_at_call 71; refine (HB.out).mono ?_; rintro e w1 ⟨rfl, hr1, hk1⟩; have HR := Lib.hid hr1; have HK := Lib.hid hk1; clear hr1 hk1)
            | (go_at_call 94; refine (HW.out _ HR.out).mono ?_; rintro e w2 ⟨rfl, hr2, hk2⟩; have HR2 := Lib.hid hr2; have HK2 := Lib.hid hk2; clear hr2 hk2; rw [HQ.out])
            | fail)
          go_ret3
          have := HR2.out
          rw [HQ.out] at this
          rw [H5.out]
          exact ⟨rfl, this, HK.out.trans HK2.out⟩
      · rw [if_pos (Or.inl h3)]
        have h3i : ¬ ((er : Nat) : Int) = 0 := by omega
        go_enter Tryd.func85, Tryd.ntmps85
        go_wp2_with (first
          | (go_at_call 71; refine (HB.out).mono ?_; rintro e w1 ⟨rfl, hr1, hk1⟩; have HR := Lib.hid hr1; have HK := Lib.hid hk1; clear hr1 hk1)
          | (go_at_call 94; refine (HW.out _ HR.out).mono ?_; rintro e w2 ⟨rfl, hr2, hk2⟩; have HR2 := Lib.hid hr2; have HK2 := Lib.hid hk2; clear hr2 hk2; rw [HQ.out])
          | fail)
        go_ret3
        have := HR2.out
        rw [HQ.out] at this
        exact ⟨rfl, this, HK.out.trans HK2.out⟩
/-- the next byte of a token that has it in itself -/
theorem next_lit (b : Nat) (x : UInt8) (l : List UInt8) (A : Option Addr) (n c : Nat) (w : World) (h : Rdr w b (x :: l)) :
    Calls Tryd.prog 86 #[.pointer (some ⟨b, 0, none⟩), .slice A n c, .int .i64 (0 : Nat)] w fun e w' => e = .returned (.int .u8 ((x.toNat : Nat) : Int)) ∧ Rdr w' b l ∧ Keep1 w w' b := by
  have hB := byte_r b (x :: l) w h
  unfold BytePost byteR at hB
  simp only [List.drop_one, List.tail_cons] at hB
  have HB := Lib.hid hB
  clear hB h
  go_enter Tryd.func86, Tryd.ntmps86
  go_wp2_with (first
    | (go_at_call 71; refine (HB.out).mono ?_; rintro e w1 ⟨rfl, hr1, hk1⟩)
    | fail)
  go_ret
  exact ⟨rfl, hr1, hk1⟩
theorem next_back (b back : Nat) (A : Option Addr) (n c B : Nat) (l : List UInt8) (w : World) (h : Rd w B A n (bv l)) (h1 : 1 ≤ back) (h2 : back ≤ n) (hc : n ≤ 1152921504606846976) :
    Calls Tryd.prog 86 #[.pointer (some ⟨b, 0, none⟩), .slice A n c, .int .i64 (back : Nat)] w fun e w' => e = .returned (.int .u8 (((l.getD (n - back) 0).toNat : Nat) : Int)) ∧ w' = w := by
  have hl : l.length = n := by rw [← h.len, bv_len]
  obtain ⟨g, off, rfl, hg, hcell⟩ := h.addr (by omega)
  have hc0 := hcell (n - back) (by omega)
  rw [bv_at l _ (by omega)] at hc0
  have hgd : l.getD (n - back) 0 = l[n - back]'(by omega) := by simp [List.getD, List.getElem?_eq_getElem (show n - back < l.length by omega)]
  rw [hgd]
  have e1 : (n : Int) - (back : Int) = ((n - back : Nat) : Int) := by omega
  have h3 : (0 : Int) < (back : Int) := by omega
  have h4 : n - back < n := by omega
  generalize l[n - back]'(by omega) = y at *
  clear hgd hcell h hl
  go_enter Tryd.func86, Tryd.ntmps86
  go_wp2_with fail
  go_ret
  exact ⟨rfl, rfl⟩
end Go.Proofs.YtbcgnacfhpahkaaDoor.lz
