/- lz: Restore. -/
import Derived.Test.YtbcgnacfhpahkaaDoorLzA
import Derived.Test.YtbcgnacfhpahkaaDoorLzMath2
namespace Go.Proofs.YtbcgnacfhpahkaaDoor.lz
open Go.RowKit Mem OM LM oct
set_option linter.unusedVariables false
attribute [local go_sem] Oper.semAt_some
def RePost (l : List UInt8) (most : Int) (w : World) (e : Ending) (w' : World) : Prop := ∃ A N c, e = .returned (.tuple #[.slice A N c, .int .i64 ((reB l most).2 : Nat)]) ∧ Ow w' w.heap.size 5 A N c (bv (reB l most).1) ∧ Below w.heap.size w w'
/-- within Restore: what is left, what is out -/
structure Rest (w wr : World) (B b : Nat) (A : Option Addr) (N c n : Nat) (left out : List UInt8) (most : Int) (res : List UInt8 × Nat) : Prop where
  below : Below w.heap.size w wr
  rdr : Rdr wr b left
  own : Ow wr B 5 A N c (bv out)
  eq : re most left out = res
  few : out.length + 128 * left.length ≤ 128 * n
  size : B ≤ wr.heap.size
theorem Rest.len {w wr : World} {B b N c n : Nat} {A : Option Addr} {left out : List UInt8} {most : Int} {res : List UInt8 × Nat} (h : Rest w wr B b A N c n left out most res) : out.length = N := by
  have := h.own.len
  rwa [bv_len] at this
/-- how much a reader has before it -/
def leftLen (w : World) (b : Nat) : Nat := match w.cell? ⟨b, 1, none⟩ with
  | some (.slice _ n _) => n
  | _ => 0
theorem leftLen_eq {w : World} {b : Nat} {l : List UInt8} (h : Rdr w b l) : leftLen w b = l.length := by
  obtain ⟨A, n, c, h1, h2, _⟩ := h.ex
  unfold leftLen
  rw [h1]
  have := h2.len
  rw [bv_len] at this
  exact this.symm
set_option maxRecDepth 100000 in
set_option maxHeartbeats 4000000 in
theorem restore_any (A0 : Option Addr) (n c0 B0 : Nat) (l : List UInt8) (most : Int) (w : World) (h : Rd w B0 A0 n (bv l)) (hB : B0 ≤ w.heap.size) (hn : n ≤ 1048576) (hm : -9223372036854775808 ≤ most ∧ most ≤ 9223372036854775807) :
    Calls Tryd.prog 63 #[.slice A0 n c0, .int .i64 most] w (RePost l most w) := by
  have hl : l.length = n := by rw [← h.len, bv_len]
  unfold RePost
  rw [reB_re]
  obtain ⟨RES, hRES⟩ : ∃ RES, re most l [] = RES := ⟨_, rfl⟩
  rw [hRES]
  have HRES := Lib.hid hRES
  have HL := Lib.hid hl
  have HH := Lib.hid h
  clear hRES hl h
  go_enter Tryd.func63, Tryd.ntmps63
  go_wp2_with fail
  refine (read_r A0 n c0 B0 l _ HH.out hB (by omega)).mono ?_
  rintro e w1 ⟨b, rfl, hbb, hr, hb1⟩
  have H0 : Rest w w1 w1.heap.size b none 0 0 n l [] most RES := ⟨hb1, hr, Ow.nil _ _ _, HRES.out, by have := HL.out; simp; omega, Nat.le_refl _⟩
  have HR0 := Lib.hid H0
  have HBL := Lib.hid (And.intro hbb (And.intro hr.lt hb1.size))
  obtain ⟨B1, hB1⟩ : ∃ B1, w1.heap.size = B1 := ⟨_, rfl⟩
  rw [hB1] at HR0 HBL
  clear H0 hr hb1 hB1 HRES hbb
  go_wp2_with fail
  go_loopw [4, 5, 6] (fun r4 r5 s wr => r4 = .slice none 0 0 ∧ r5 = .int .i64 0 ∧ ∃ (A : Option Addr) (N c : Nat) (left out : List UInt8), s = .slice A N c ∧ Hid (Rest w wr B1 b A N c n left out most RES)) (fun _ _ _ wr => leftLen wr b)
  case atStart => exact ⟨rfl, rfl, none, 0, 0, l, [], rfl, HR0⟩
  case round =>
    clear HR0
    obtain ⟨rfl, rfl, A, N, c, left, out, rfl, HR⟩ := hrel
    have hlen := HR.out.len
    have hfew := HR.out.few
    cases left with
    | nil =>
      have he := HR.out.eq
      rw [re_nil] at he
      have HE := Lib.hid he
      clear he hlen hfew
      go_wp2_with (go_at_call 84; refine (left_any b [] _ HR.out.rdr).mono ?_; rintro e w' ⟨rfl, rfl⟩)
      go_ret2
      rw [← HE.out]
      exact ⟨A, N, c, rfl, HR.out.own.base HBL.out.2.2, HR.out.below⟩
    | cons x t =>
      obtain ⟨LL, hLL⟩ : ∃ LL, (x :: t).length = LL := ⟨_, rfl⟩
      have hp : (0 : Int) < (LL : Int) := by have : 0 < LL := by rw [← hLL]; simp
                                             omega
      rw [hLL] at hfew
      have HLL := Lib.hid hLL
      have hlt : LL ≤ n := by omega
      have htl : t.length + 1 = LL := by rw [← hLL]; rfl
      have HME := Lib.hid ((leftLen_eq HR.out.rdr).trans hLL)
      clear hLL
      have hh := head_any b x t N _ HR.out.rdr (by omega)
      unfold HeadPost at hh
      have hN : N ≤ 134217728 := by omega
      by_cases hbad : (headR x t N).2.2.2 = 0
      · rcases headR_ok hbad with ⟨q1, q2, q3⟩ | ⟨q1, q2, back, s, q3, q4, q5, q6, q7, q8⟩
        · rw [q2] at hh
          simp only [List.drop_zero] at hh
          have HQ := Lib.hid hh
          have hx := x.toNat_lt
          by_cases hcap : most < (N + (x.toNat + 1) : Nat)
          · have he := re_cap (most := most) (x := x) (t := t) (out := out) (by rw [hlen]; exact hbad) (by rw [hlen, q2]; exact hcap)
            rw [HR.out.eq] at he
            have HE := Lib.hid he
            have hc2 : most < (N : Int) + ((x.toNat : Int) + 1) := by omega
            clear he hh hlen hbad q2 hcap
            go_wp2_with (first
            | (go_at_call 84; refine (left_any b _ _ HR.out.rdr).mono ?_; rintro e w' ⟨rfl, rfl⟩; rw [HLL.out])
            | (go_at_call 85; refine (HQ.out).mono ?_; rintro e w2 ⟨rfl, hr2, hk2⟩; have HR2 := Lib.hid (And.intro hr2 hk2); clear hr2 hk2)
            | fail)
            go_ret2
            rw [HE.out]
            exact ⟨none, 0, 0, rfl, Ow.nil _ _ _, Keep1.below HR.out.below HR2.out.2 (Nat.le_trans HBL.out.2.2 HR.out.size) HBL.out.1⟩
          · have he := re_lit (most := most) (x := x) (t := t) (out := out) q1 q3 (by rw [hlen]; exact hcap)
            rw [HR.out.eq] at he
            have HE := Lib.hid he
            have hc2 : ¬ most < (N : Int) + ((x.toNat : Int) + 1) := by omega
            clear he hh hbad q2 hcap
            go_wp2_with (first
            | (go_at_call 84; refine (left_any b _ _ HR.out.rdr).mono ?_; rintro e w' ⟨rfl, rfl⟩; rw [HLL.out])
            | (go_at_call 85; refine (HQ.out).mono ?_; rintro e w2 ⟨rfl, hr2, hk2⟩; have HR2 := Lib.hid (And.intro hr2 hk2); clear hr2 hk2)
            | fail)
            have hn2 : (x.toNat : Int) + 1 = ((x.toNat + 1 : Nat) : Int) := by omega
            rw [hn2]
            obtain ⟨m, hm1⟩ : ∃ m, x.toNat + 1 = m := ⟨_, rfl⟩
            rw [hm1] at HE q3 ⊢
            have hm3 : m ≤ 128 := by omega
            have HIN : Hid (Below w.heap.size w w2 ∧ Rdr w2 b (t.drop 0) ∧ Ow w2 B1 5 A N c (bv (out ++ t.take 0)) ∧ B1 ≤ w2.heap.size) := Lib.hid ⟨Keep1.below HR.out.below HR2.out.2 (Nat.le_trans HBL.out.2.2 HR.out.size) HBL.out.1, by rw [List.drop_zero]; exact HR2.out.1, by rw [List.take_zero, List.append_nil]; exact HR2.out.2.ow HR.out.own HBL.out.2.1, Nat.le_trans HR.out.size HR2.out.2.size⟩
            have HLN := Lib.hid hlen
            clear HR HR2 hn2 hm1 hx q1 hlen HQ hc2
            go_loopw [6, 34, 35, 36, 37, 38, 39, 40, 41, 42, 43] (fun s i _ _ _ _ _ _ _ _ _ wx => ∃ (j : Nat) (A : Option Addr) (N2 c : Nat), s = .slice A N2 c ∧ i = .int .i64 (j : Nat) ∧ j ≤ m ∧ N2 = N + j ∧ Hid (Below w.heap.size w wx ∧ Rdr wx b (t.drop j) ∧ Ow wx B1 5 A N2 c (bv (out ++ t.take j)) ∧ B1 ≤ wx.heap.size)) (fun _ i _ _ _ _ _ _ _ _ _ _ => m - (intOf i).toNat)
            case atStart => exact ⟨0, A, N, c, rfl, rfl, by omega, by omega, HIN⟩
            case round =>
              clear HIN
              obtain ⟨j, A2, N2, c2, rfl, rfl, hj, hN2, HI⟩ := hrel
              subst hN2
              by_cases hlt2 : j < m
              · have hji : (j : Int) < (m : Int) := by omega
                have hjt : j < t.length := by omega
                have hdr : t.drop j = t[j] :: t.drop (j + 1) := List.drop_eq_getElem_cons hjt
                have hnx := next_lit b t[j] (t.drop (j + 1)) A2 (N + j) c2 _ (by rw [← hdr]; exact HI.out.2.1)
                have htk : t.take (j + 1) = t.take j ++ [t[j]] := List.take_succ_eq_append_getElem hjt
                have HNX := Lib.hid hnx
                have HTK := Lib.hid htk
                generalize hy : t[j] = y at *
                clear hnx htk hdr hy
                go_wp2_with (first
                  | (go_at_call 86; refine (HNX.out).mono ?_; rintro e w3 ⟨rfl, hr3, hk3⟩; have HK3 := Lib.hid (And.intro (Keep1.below HI.out.1 hk3 (Nat.le_trans HBL.out.2.2 HI.out.2.2.2) HBL.out.1) (And.intro (hk3.ow HI.out.2.2.1 HBL.out.2.1) (Nat.le_trans HI.out.2.2.2 hk3.size))); have HR3 := Lib.hid hr3; clear hr3 hk3)
                  | (at_builtin; refine wp_app u8ty rfl (.tmp 36) (.tmp 41) rfl rfl rfl (HK3.out.2.1.alloc _) (Rd.one _ _ _) (one1 rfl) (by omega) (by omega) (by simp; have := HK3.out.2.2; omega) ?_; intro A3 N3 c3 w4 ho4 hN4 hb4 hg4; have hl4 := ho4.len; clear hg4)
                  | fail)
                go_roundw
                case rel =>
                  have hb4' : Below B1 w3 w4 := ((Below.refl _ w3).alloc HK3.out.2.2 _).trans hb4
                  have hsz : w3.heap.size ≤ w4.heap.size := hb4'.size
                  refine ⟨j + 1, A3, N3, c3, rfl, by go_num, by omega, ?_, Lib.hid ⟨HK3.out.1.trans (hb4'.mono HBL.out.2.2), HR3.out.on hb4' HBL.out.2.1 hsz, ?_, Nat.le_trans HK3.out.2.2 hsz⟩⟩
                  · rw [List.length_append, bv_len, List.length_append, List.length_take, HLN.out] at hl4
                    simp at hl4
                    omega
                  · rw [HTK.out, ← List.append_assoc, bv_app (out ++ t.take j)]
                    exact ho4
                case measure => simp only [intOf]; omega
              · have hji : ¬ (j : Int) < (m : Int) := by omega
                obtain rfl : j = m := by omega
                have hfew2 : (out ++ t.take j).length + 128 * (t.drop j).length ≤ 128 * n := by
                  rw [List.length_append, List.length_take, List.length_drop]
                  have := HLN.out
                  omega
                have hmeas : (t.drop j).length < LL := by rw [List.length_drop]; omega
                have HF := Lib.hid (And.intro hfew2 hmeas)
                clear hfew2 hmeas
                go_wp2_with fail
                go_roundw
                case rel => exact ⟨rfl, rfl, A2, N + j, c2, t.drop j, out ++ t.take j, rfl, Lib.hid ⟨HI.out.1, HI.out.2.1, HI.out.2.2.1, HE.out.symm, HF.out.1, HI.out.2.2.2⟩⟩
                case measure =>
                  rw [leftLen_eq HI.out.2.1]
                  exact Nat.lt_of_lt_of_le HF.out.2 (Nat.le_of_eq HME.out.symm)
        · rw [q3] at hh
          simp only at hh
          have HQ := Lib.hid hh
          have hx := x.toNat_lt
          obtain ⟨m, hm1⟩ : ∃ m, x.toNat - 125 = m := ⟨_, rfl⟩
          rw [hm1] at HQ
          by_cases hcap : most < (N + m : Nat)
          · have he := re_cap (most := most) (x := x) (t := t) (out := out) (by rw [hlen]; exact hbad) (by rw [hlen, q3, hm1]; exact hcap)
            rw [HR.out.eq] at he
            have HE := Lib.hid he
            have hc2 : most < (N : Int) + (m : Int) := by omega
            have hm3 : m ≤ 66 := by omega
            clear he hh hlen hbad q3 hcap hm1
            go_wp2_with (first
            | (go_at_call 84; refine (left_any b _ _ HR.out.rdr).mono ?_; rintro e w' ⟨rfl, rfl⟩; rw [HLL.out])
            | (go_at_call 85; refine (HQ.out).mono ?_; rintro e w2 ⟨rfl, hr2, hk2⟩; have HR2 := Lib.hid (And.intro hr2 hk2); clear hr2 hk2)
            | fail)
            go_ret2
            rw [HE.out]
            exact ⟨none, 0, 0, rfl, Ow.nil _ _ _, Keep1.below HR.out.below HR2.out.2 (Nat.le_trans HBL.out.2.2 HR.out.size) HBL.out.1⟩
          · have he := re_match (most := most) (x := x) (t := t) (out := out) (back := back) (s := s) (by rw [hlen]; exact q3) q4 (by rw [hlen, hm1]; exact hcap)
            rw [HR.out.eq, hm1] at he
            have HE := Lib.hid he
            have hc2 : ¬ most < (N : Int) + (m : Int) := by omega
            have hm3 : m ≤ 66 := by omega
            clear he hh hbad q3 hcap hm1
            go_wp2_with (first
            | (go_at_call 84; refine (left_any b _ _ HR.out.rdr).mono ?_; rintro e w' ⟨rfl, rfl⟩; rw [HLL.out])
            | (go_at_call 85; refine (HQ.out).mono ?_; rintro e w2 ⟨rfl, hr2, hk2⟩; have HR2 := Lib.hid (And.intro hr2 hk2); clear hr2 hk2)
            | fail)
            have HIN : Hid (Below w.heap.size w w2 ∧ Rdr w2 b (t.drop s) ∧ Ow w2 B1 5 A N c (bv (copies out back 0)) ∧ B1 ≤ w2.heap.size) := Lib.hid ⟨Keep1.below HR.out.below HR2.out.2 (Nat.le_trans HBL.out.2.2 HR.out.size) HBL.out.1, HR2.out.1, HR2.out.2.ow HR.out.own HBL.out.2.1, Nat.le_trans HR.out.size HR2.out.2.size⟩
            have HLN := Lib.hid hlen
            clear HR HR2 hx q1 q2 q7 hlen HQ hc2
            go_loopw [6, 34, 35, 36, 37, 38, 39, 40, 41, 42, 43] (fun s2 i _ _ _ _ _ _ _ _ _ wx => ∃ (j : Nat) (A : Option Addr) (N2 c : Nat), s2 = .slice A N2 c ∧ i = .int .i64 (j : Nat) ∧ j ≤ m ∧ N2 = N + j ∧ Hid (Below w.heap.size w wx ∧ Rdr wx b (t.drop s) ∧ Ow wx B1 5 A N2 c (bv (copies out back j)) ∧ B1 ≤ wx.heap.size)) (fun _ i _ _ _ _ _ _ _ _ _ _ => m - (intOf i).toNat)
            case atStart => exact ⟨0, A, N, c, rfl, rfl, by omega, by omega, HIN⟩
            case round =>
              clear HIN
              obtain ⟨j, A2, N2, c2, rfl, rfl, hj, hN2, HI⟩ := hrel
              subst hN2
              by_cases hlt2 : j < m
              · have hji : (j : Int) < (m : Int) := by omega
                have hcl : (copies out back j).length = N + j := by rw [copies_len, HLN.out]
                have hnx := next_back b back A2 (N + j) c2 _ (copies out back j) _ HI.out.2.2.1.rd q4 (by omega) (by omega)
                have htk : copies out back (j + 1) = copies out back j ++ [(copies out back j).getD (N + j - back) 0] := by rw [← hcl]; rfl
                have HNX := Lib.hid hnx
                have HTK := Lib.hid htk
                generalize hy : (copies out back j).getD (N + j - back) 0 = y at *
                clear hnx htk hcl hy
                go_wp2_with (first
                  | (go_at_call 86; refine (HNX.out).mono ?_; rintro e w3 ⟨rfl, rfl⟩)
                  | (at_builtin; refine wp_app u8ty rfl (.tmp 36) (.tmp 41) rfl rfl rfl (HI.out.2.2.1.alloc _) (Rd.one _ _ _) (one1 rfl) (by omega) (by omega) (by simp; have := HI.out.2.2.2; omega) ?_; intro A3 N3 c3 w4 ho4 hN4 hb4 hg4; have hl4 := ho4.len; clear hg4)
                  | fail)
                go_roundw
                case rel =>
                  have hb4' : Below B1 w3 w4 := ((Below.refl _ w3).alloc HI.out.2.2.2 _).trans hb4
                  have hsz : w3.heap.size ≤ w4.heap.size := hb4'.size
                  refine ⟨j + 1, A3, N3, c3, rfl, by go_num, by omega, ?_, Lib.hid ⟨HI.out.1.trans (hb4'.mono HBL.out.2.2), HI.out.2.1.on hb4' HBL.out.2.1 hsz, ?_, Nat.le_trans HI.out.2.2.2 hsz⟩⟩
                  · rw [List.length_append, bv_len, copies_len, HLN.out] at hl4
                    simp at hl4
                    omega
                  · rw [HTK.out, bv_app (copies out back j)]
                    exact ho4
                case measure => simp only [intOf]; omega
              · have hji : ¬ (j : Int) < (m : Int) := by omega
                obtain rfl : j = m := by omega
                have hfew2 : (copies out back j).length + 128 * (t.drop s).length ≤ 128 * n := by
                  rw [copies_len, List.length_drop]
                  have := HLN.out
                  omega
                have hmeas : (t.drop s).length < LL := by rw [List.length_drop]; omega
                have HF := Lib.hid (And.intro hfew2 hmeas)
                clear hfew2 hmeas
                go_wp2_with fail
                go_roundw
                case rel => exact ⟨rfl, rfl, A2, N + j, c2, t.drop s, copies out back j, rfl, Lib.hid ⟨HI.out.1, HI.out.2.1, HI.out.2.2.1, HE.out.symm, HF.out.1, HI.out.2.2.2⟩⟩
                case measure =>
                  rw [leftLen_eq HI.out.2.1]
                  exact Nat.lt_of_lt_of_le HF.out.2 (Nat.le_of_eq HME.out.symm)
      · have he := re_bad (most := most) (x := x) (t := t) (out := out) (by rw [hlen]; exact hbad)
        rw [HR.out.eq, hlen] at he
        generalize headR x t N = q at *
        obtain ⟨m, back, s, er⟩ := q
        simp only at *
        have hb2 : ¬ ((er : Nat) : Int) = 0 := by omega
        have HE := Lib.hid he
        have HQ := Lib.hid hh
        clear he hh hlen hfew hbad
        go_wp2_with (first
          | (go_at_call 84; refine (left_any b _ _ HR.out.rdr).mono ?_; rintro e w' ⟨rfl, rfl⟩; rw [HLL.out])
          | (go_at_call 85; refine (HQ.out).mono ?_; rintro e w2 ⟨rfl, hr2, hk2⟩)
          | fail)
        go_ret2
        rw [HE.out]
        exact ⟨none, 0, 0, rfl, Ow.nil _ _ _, Keep1.below HR.out.below hk2 (Nat.le_trans HBL.out.2.2 HR.out.size) HBL.out.1⟩
end Go.Proofs.YtbcgnacfhpahkaaDoor.lz
