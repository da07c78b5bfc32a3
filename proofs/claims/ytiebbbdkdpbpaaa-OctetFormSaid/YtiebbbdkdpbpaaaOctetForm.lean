/- OctetForm: for every input the law answers true and leaves its arguments as they were. -/
import Derived.Test.YtiebbbdkdpbpaaaRows
import Derived.Test.YtiebbbdkdpbpaaaOctR
import Derived.Test.YtiebbbdkdpbpaaaOctAwake
import Derived.ProofKit
import Derived.OpenShut
import Derived.ShutString
import Derived.ChangeOld
namespace Go.Proofs.Ytiebbbdkdpbpaaa.octetFormDone
open Go.RowKit Mem OM oct
theorem rd_take {w : World} {B n : Nat} {A : Option Addr} {l : List UInt8} (h : Rd w B A n (bv l)) (i : Nat) (hi : i ≤ n) (A' : Option Addr) (hA : 0 < i → A' = A) : Rd w B A' i (bv (l.take i)) := by
  have := h.cut (l := 0) (m := i) (by omega) (A' := A') (fun hp => by rw [hA hp]; cases A <;> simp [Addr.add])
  rw [List.drop_zero, ← bv_take] at this
  exact this
/-- a text that is read, put again, is what was read -/
theorem text_form (l t : List UInt8) (most : Int) (s : Nat) (h : textR l most = (t, s, 0)) : numB t.length ++ t = l.take s ∧ s ≤ l.length := by
  unfold textR at h
  generalize hq : lk l = q at h
  obtain ⟨n, k, e⟩ := q
  simp only at h
  by_cases he : e = 0
  · subst he
    obtain ⟨h1, h2, h3, h4⟩ := look_ok hq
    rw [if_pos rfl] at h
    by_cases h5 : max most 0 < (n : Int)
    · rw [if_pos h5] at h; simp at h
    · rw [if_neg h5] at h
      by_cases h6 : l.length - k < n
      · rw [if_pos h6] at h; simp at h
      · rw [if_neg h6] at h
        injection h with e1 e2
        injection e2 with e2 _
        subst e1
        subst e2
        have hl : ((l.drop k).take n).length = n := by simp; omega
        rw [hl, ← h1, List.take_add]
        exact ⟨rfl, by omega⟩
  · rw [if_neg he] at h
    injection h with _ e2
    injection e2 with _ e3
    exact absurd e3 he
theorem text_err (l : List UInt8) (most : Int) : (textR l most).2.2 = 0 ∨ ((textR l most).2.1 = 0 ∧ (textR l most).2.2 ≠ 0) := by
  unfold textR
  by_cases he : (lk l).2.2 = 0
  · rw [if_pos he]
    by_cases h5 : max most 0 < ((lk l).1 : Int)
    · rw [if_pos h5]; right; simp
    · rw [if_neg h5]
      by_cases h6 : l.length - (lk l).2.1 < (lk l).1
      · rw [if_pos h6]; right; simp
      · rw [if_neg h6]; left; rfl
  · rw [if_neg he]; right; exact ⟨rfl, he⟩
set_option maxRecDepth 20000 in
set_option maxHeartbeats 16000000 in
theorem walk (A : Option Addr) (n c : Nat) (l : List UInt8) (w : World) (h : Rd w w.heap.size A n (bv l)) (hc : n ≤ c) (hn : n ≤ 9223372036854775807) :
    Calls Try.prog 8 #[.slice A n c] w fun e w' => e = .returned (.bool true) ∧ Below w.heap.size w w' := by
  have hlen : l.length = n := by rw [← bv_len, h.len]
  have HL := Lib.hid hlen
  clear hlen
  by_cases hbig : 65536 < n
  · go_enter Try.func8, Try.ntmps8
    go_wp2_with fail
    refine (awake_any _).mono ?_
    rintro e w1 ⟨rfl, hb1⟩
    go_wp2
    go_ret
    exact ⟨rfl, hb1⟩
  obtain ⟨z1, z2, z3, z4⟩ := lk_size l
  obtain ⟨u, hu⟩ : ∃ u, (lk l).1 = u := ⟨_, rfl⟩
  obtain ⟨s, hs⟩ : ∃ s, (lk l).2.1 = s := ⟨_, rfl⟩
  obtain ⟨er, her⟩ : ∃ er, (lk l).2.2 = er := ⟨_, rfl⟩
  have hform : er = 0 → l.take s = numB u := fun h0 => by
    have e : lk l = (u, s, 0) := by rw [← hu, ← hs, ← h0, ← her]
    exact (look_ok e).1
  rw [hu, hs, her] at z4
  rw [hs] at z1 z3
  rw [hu] at z2
  have hnum : ∀ b (w1 : World), Rdr w1 b l → Calls Try.prog 28 #[.pointer (some ⟨b, 0, none⟩)] w1 fun e w' => e = .returned (.tuple #[.int .i64 (u : Nat), .int .i64 (er : Nat)]) ∧ Rdr w' b (l.drop s) ∧ Keep1 w1 w' b := fun b w1 hr => by
    have := number_r b l w1 hr
    unfold NumPost at this
    rw [hu, hs, her] at this
    exact this
  obtain ⟨T, hT⟩ : ∃ T, (textR l (n : Int)).1 = T := ⟨_, rfl⟩
  obtain ⟨ts, hts⟩ : ∃ s, (textR l (n : Int)).2.1 = s := ⟨_, rfl⟩
  obtain ⟨te, hte⟩ : ∃ er, (textR l (n : Int)).2.2 = er := ⟨_, rfl⟩
  have htform : te = 0 → numB T.length ++ T = l.take ts ∧ ts ≤ l.length := fun h0 => text_form l T (n : Int) ts (by rw [← hT, ← hts, ← h0, ← hte])
  have hterr := text_err l (n : Int)
  rw [hts, hte] at hterr
  have htext : ∀ b (w1 : World), Rdr w1 b l → Calls Try.prog 32 #[.pointer (some ⟨b, 0, none⟩), .int .i64 (n : Nat)] w1 fun e w' => ∃ A N c, e = .returned (.tuple #[.slice A N c, .int .i64 (te : Nat)]) ∧ Ow w' w1.heap.size 5 A N c (bv T) ∧ Rdr w' b (l.drop ts) ∧ Keep1 w1 w' b := fun b w1 hr => by
    have := text_r b l (n : Int) w1 hr
    unfold TextPost at this
    rw [hT, hts, hte] at this
    exact this
  have HNUM := Lib.hid hnum
  have HTEXT := Lib.hid htext
  have HFORM := Lib.hid hform
  have HTFORM := Lib.hid htform
  clear hnum htext hform htform hu hs her hT hts hte
  rw [HL.out] at z1
  rcases z4 with rfl | ⟨rfl, rfl, z5⟩
  · have hsl : l.take s = numB u := HFORM.out rfl
    have HSL := Lib.hid hsl
    clear hsl
    go_enter Try.func8, Try.ntmps8
    go_wp2_with fail
    refine (read_r _ n _ _ l _ h (Nat.le_refl _) (by omega)).mono ?_
    rintro e w1 ⟨b, rfl, hlt, hr1, hb1⟩
    have hy1 := hb1.size
    go_wp2_with fail
    refine (HNUM.out b _ hr1).mono ?_
    rintro e w2 ⟨rfl, hr2, hk2⟩
    have hy2 := hk2.size
    have hb2 := hk2.below hb1 hy1 hlt
    have HLF := fun (w' : World) (hb : Below w2.heap.size w2 w') => left_any b _ w' (hr2.below hb)
    have hdl : ((l.drop s).length : Int) = (n : Int) - (s : Int) := by rw [List.length_drop, HL.out]; omega
    rw [hdl] at HLF
    have HLF := Lib.hid HLF
    clear hdl
    go_wp2_with fail
    refine (number_any none 0 0 0 (u : Int) [] _ (Rd.nil _ _ _) (by omega) (by omega) (by omega) (by omega)).mono ?_
    rintro e w3 ⟨A3, N3, c3, rfl, ho3, hb3⟩
    rw [List.nil_append, Int.toNat_natCast, ← HSL.out] at ho3
    have hy3 := hb3.size
    have hb03 := hb2.trans (hb3.mono (by omega))
    have hns : (n : Int) - ((n : Int) - (s : Int)) = (s : Int) := by omega
    have g1 : (s : Int) ≤ (c : Int) := by omega
    have g2 : s ≤ c := by omega
    have g3 : (s : Int) ≤ (n : Int) := by omega
    go_wp2_with (first
      | (go_at_call 38; refine (HLF.out _ hb3).mono ?_; rintro e w9 ⟨rfl, rfl⟩)
      | fail)
    have HEQ := equal_any A3 A N3 c3 s c _ (l.take s) (l.take s) w3 (ho3.rd) ((rd_take (h.below hb03 (Nat.le_refl _)) s z1 A (fun _ => rfl)).more hb03.size)
    rw [decide_eq_true rfl] at HEQ
    refine HEQ.mono ?_
    rintro e w4 ⟨rfl, rfl⟩
    have HBW := hb03
    clear g1 g2 g3 hns HEQ
    go_wp2_with fail
    refine (read_r _ n _ _ l _ (h.below HBW (Nat.le_refl _)) HBW.size (by omega)).mono ?_
    rintro e w5 ⟨b5, rfl, hlt5, hr5, hb5⟩
    have hy5 := hb5.size
    have hb05 := HBW.trans (hb5.mono HBW.size)
    go_wp2_with fail
    refine (HTEXT.out b5 _ hr5).mono ?_
    rintro e w6 ⟨A6, N6, c6, rfl, ho6, hr6, hk6⟩
    have hy6 := hk6.size
    have hb06 : Below w.heap.size w w6 := hk6.below hb05 (by have := HBW.size; omega) (by have := HBW.size; omega)
    have hN6 : T.length = N6 := by have := ho6.len; rw [bv_len] at this; exact this
    rcases hterr with rfl | ⟨rfl, hte⟩
    · have htf := HTFORM.out rfl
      have hts1 : ts ≤ n := by have := htf.2; rw [HL.out] at this; exact this
      have hts2 := htf.1
      rw [hN6] at hts2
      have HLT := fun (w' : World) (hb : Below w6.heap.size w6 w') => left_any b5 _ w' (hr6.below hb)
      have hdl : ((l.drop ts).length : Int) = (n : Int) - (ts : Int) := by rw [List.length_drop, HL.out]; omega
      rw [hdl] at HLT
      have HLT := Lib.hid HLT
      have HTS2 := Lib.hid hts2
      have hnt : (n : Int) - ((n : Int) - (ts : Int)) = (ts : Int) := by omega
      have g5 : (ts : Int) ≤ (c : Int) := by omega
      have g6 : ts ≤ c := by omega
      have g7 : (ts : Int) ≤ (n : Int) := by omega
      have hN6b : N6 ≤ 131072 := by
        have := congrArg List.length hts2
        rw [List.length_append, numB_len, List.length_take] at this
        omega
      clear hdl htf hts2
      go_wp2_with fail
      refine (text_any none A6 0 0 N6 c6 _ [] T _ (Rd.nil _ _ _) ho6.rd (Nat.le_refl _) (by omega) (by omega)).mono ?_
      rintro e w7 ⟨A7, N7, c7, rfl, ho7, hb7⟩
      rw [List.nil_append, HTS2.out] at ho7
      have hb07 := hb06.trans (hb7.mono hb06.size)
      have HEQ := equal_any A7 A N7 c7 ts c _ (l.take ts) (l.take ts) w7 (ho7.rd) ((rd_take (h.below hb07 (Nat.le_refl _)) ts hts1 A (fun _ => rfl)).more hb07.size)
      rw [decide_eq_true rfl] at HEQ
      have HEQ := Lib.hid HEQ
      go_wp2_with (first
        | (go_at_call 38; refine (HLT.out _ hb7).mono ?_; rintro e w9 ⟨rfl, rfl⟩)
        | (go_at_call 16; refine HEQ.out.mono ?_; rintro e w9 ⟨rfl, rfl⟩)
        | (go_at_call 13; refine (awake_any _).mono ?_; rintro e w9 ⟨rfl, hb9⟩)
        | fail)
      go_ret
      exact ⟨rfl, hb07.trans (hb9.mono hb07.size)⟩
    · have hti : ¬ ((te : Nat) : Int) = 0 := by omega
      have htb : (((te : Nat) : Int) == 0) = false := by simpa using hti
      have htn : (((te : Nat) : Int) != 0) = true := bne_iff_ne.2 hti
      have HLT := left_any b5 _ w6 hr6
      rw [show ((l.drop 0).length : Int) = (n : Int) by rw [List.drop_zero, HL.out]] at HLT
      have HLT := Lib.hid HLT
      go_wp2_with (first
        | (go_at_call 38; refine HLT.out.mono ?_; rintro e w9 ⟨rfl, rfl⟩)
        | (go_at_call 13; refine (awake_any _).mono ?_; rintro e w9 ⟨rfl, hb9⟩)
        | fail)
      go_ret
      exact ⟨rfl, hb06.trans (hb9.mono hb06.size)⟩
  · have hei : ¬ ((er : Nat) : Int) = 0 := by omega
    have heb : (((er : Nat) : Int) == 0) = false := by simpa using hei
    clear HFORM
    go_enter Try.func8, Try.ntmps8
    go_wp2_with fail
    refine (read_r _ n _ _ l _ h (Nat.le_refl _) (by omega)).mono ?_
    rintro e w1 ⟨b, rfl, hlt, hr1, hb1⟩
    have hy1 := hb1.size
    go_wp2_with fail
    refine (HNUM.out b _ hr1).mono ?_
    rintro e w2 ⟨rfl, hr2, hk2⟩
    have hy2 := hk2.size
    have HBW := hk2.below hb1 hy1 hlt
    have HLF := left_any b _ w2 hr2
    rw [show ((l.drop 0).length : Int) = (n : Int) by rw [List.drop_zero, HL.out]] at HLF
    have HLF := Lib.hid HLF
    go_wp2_with (first
      | (go_at_call 38; refine HLF.out.mono ?_; rintro e w9 ⟨rfl, rfl⟩)
      | fail)
    refine (read_r _ n _ _ l _ (h.below HBW (Nat.le_refl _)) HBW.size (by omega)).mono ?_
    rintro e w5 ⟨b5, rfl, hlt5, hr5, hb5⟩
    have hy5 := hb5.size
    have hb05 := HBW.trans (hb5.mono HBW.size)
    go_wp2_with fail
    refine (HTEXT.out b5 _ hr5).mono ?_
    rintro e w6 ⟨A6, N6, c6, rfl, ho6, hr6, hk6⟩
    have hy6 := hk6.size
    have hb06 : Below w.heap.size w w6 := hk6.below hb05 (by have := HBW.size; omega) (by have := HBW.size; omega)
    have hN6 : T.length = N6 := by have := ho6.len; rw [bv_len] at this; exact this
    rcases hterr with rfl | ⟨rfl, hte⟩
    · have htf := HTFORM.out rfl
      have hts1 : ts ≤ n := by have := htf.2; rw [HL.out] at this; exact this
      have hts2 := htf.1
      rw [hN6] at hts2
      have HLT := fun (w' : World) (hb : Below w6.heap.size w6 w') => left_any b5 _ w' (hr6.below hb)
      have hdl : ((l.drop ts).length : Int) = (n : Int) - (ts : Int) := by rw [List.length_drop, HL.out]; omega
      rw [hdl] at HLT
      have HLT := Lib.hid HLT
      have HTS2 := Lib.hid hts2
      have hnt : (n : Int) - ((n : Int) - (ts : Int)) = (ts : Int) := by omega
      have g5 : (ts : Int) ≤ (c : Int) := by omega
      have g6 : ts ≤ c := by omega
      have g7 : (ts : Int) ≤ (n : Int) := by omega
      have hN6b : N6 ≤ 131072 := by
        have := congrArg List.length hts2
        rw [List.length_append, numB_len, List.length_take] at this
        omega
      clear hdl htf hts2
      go_wp2_with fail
      refine (text_any none A6 0 0 N6 c6 _ [] T _ (Rd.nil _ _ _) ho6.rd (Nat.le_refl _) (by omega) (by omega)).mono ?_
      rintro e w7 ⟨A7, N7, c7, rfl, ho7, hb7⟩
      rw [List.nil_append, HTS2.out] at ho7
      have hb07 := hb06.trans (hb7.mono hb06.size)
      have HEQ := equal_any A7 A N7 c7 ts c _ (l.take ts) (l.take ts) w7 (ho7.rd) ((rd_take (h.below hb07 (Nat.le_refl _)) ts hts1 A (fun _ => rfl)).more hb07.size)
      rw [decide_eq_true rfl] at HEQ
      have HEQ := Lib.hid HEQ
      go_wp2_with (first
        | (go_at_call 38; refine (HLT.out _ hb7).mono ?_; rintro e w9 ⟨rfl, rfl⟩)
        | (go_at_call 16; refine HEQ.out.mono ?_; rintro e w9 ⟨rfl, rfl⟩)
        | (go_at_call 13; refine (awake_any _).mono ?_; rintro e w9 ⟨rfl, hb9⟩)
        | fail)
      go_ret
      exact ⟨rfl, hb07.trans (hb9.mono hb07.size)⟩
    · have hti : ¬ ((te : Nat) : Int) = 0 := by omega
      have htb : (((te : Nat) : Int) == 0) = false := by simpa using hti
      have htn : (((te : Nat) : Int) != 0) = true := bne_iff_ne.2 hti
      have HLT := left_any b5 _ w6 hr6
      rw [show ((l.drop 0).length : Int) = (n : Int) by rw [List.drop_zero, HL.out]] at HLT
      have HLT := Lib.hid HLT
      go_wp2_with (first
        | (go_at_call 38; refine HLT.out.mono ?_; rintro e w9 ⟨rfl, rfl⟩)
        | (go_at_call 13; refine (awake_any _).mono ?_; rintro e w9 ⟨rfl, hb9⟩)
        | fail)
      go_ret
      exact ⟨rfl, hb06.trans (hb9.mono hb06.size)⟩
end Go.Proofs.Ytiebbbdkdpbpaaa.octetFormDone
namespace Go.Proofs.Ytiebbbdkdpbpaaa.octetFormDone
open Go.ChangeShapes Go.WideShapes Go.ChangeAt Go.RowKit Mem oct
set_option linter.unusedVariables false
theorem own : ownKnob Try.prog.godebug = none := by kernel_rfl
theorem laidOut : laidOutB Try.prog = true := by kernel_rfl
set_option maxRecDepth 100000 in
theorem lifted (os : Os) (started : os.Started) (H : Type) (enc : TypeId × Value → H) :
    ReturnsInHanded {} Try.checked os 8 .any (Rows.octetFormSpec.pre6 enc Try.prog Try.f8 Rows.octetFormRow.domain false) (Rows.octetFormSpec.post enc Try.prog Try.f8 false true false false) := by
  refine returnsInHanded_of_change (C := Try.checked) own started (by kernel_rfl) Try.func8
    (ChangeSpec.witness6 (enc := enc) (C := Try.checked) false ⟨#[], #[.slice none 0 0], []⟩ 8 (by kernel_rfl) (by kernel_rfl) (by kernel_rfl) (by kernel_rfl)) ?_
  intro W base args ds gs before hval0 hW hcnd _
  have hval : ∀ (j : Nat) t v, Try.f8.params[j]? = some t → args[j]? = some v → Value.okWide Try.prog W .any base t v := hval0
  have hW' := hW
  obtain ⟨p, q, hA0, hV, rfl, hfz, hnd⟩ := hW
  have hA : DataW.TrodAll enc Try.prog W 0 (fun _ => true) true Try.f8.params.toList args.toList ds p := hA0
  rw [Try.params8] at hA hval
  obtain ⟨v0, vs0, d0, ds0, p0, q0, hargs, rfl, rfl, h0, r0⟩ := trodAll_cons hA
  obtain ⟨rfl, rfl, rfl⟩ := trodAll_nil r0
  obtain rfl : args = #[v0] := by cases args; simp_all
  obtain ⟨rfl, rfl⟩ := trodVars_none hV
  obtain ⟨a0, n0, c0, rfl⟩ := okWide_slice Try.underlying22 (hval 0 22 v0 rfl rfl)
  have k0 := h0
  have lt0 : ∀ x ∈ p0, x.block < W.heap.size := by obtain ⟨m, hm⟩ := k0; exact DataW.trod_lt m _ _ _ hm
  obtain ⟨l0, w0, m0, b0⟩ : ∃ l : List UInt8, Rd W W.heap.size a0 n0 (bv l) ∧ n0 ≤ c0 ∧ n0 ≤ 9223372036854775807 := by
    obtain ⟨fuel, hf⟩ := h0
    rcases open_ints Try.underlying22 Try.underlying5 (by kernel_rfl) hf with ⟨hcs, _⟩ | ⟨x, l, c, zs, hcs, _, hl, hm, hz, _, hcell, hwz⟩
    · simp [Value.cells] at hcs
      obtain ⟨rfl, rfl, rfl⟩ := hcs
      exact ⟨[], Rd.nil _ _ _, Nat.le_refl _, by omega⟩
    · simp [Value.cells] at hcs
      obtain ⟨rfl, rfl, rfl⟩ := hcs
      unfold maxLen at hm
      obtain ⟨l, hl2⟩ := rd_bytes hl (by simpa using hz) hcell hwz
      exact ⟨l, hl2, hl, by omega⟩
  clear hA0 hval0
  refine (walk a0 n0 c0 l0 W w0 m0 b0).mono fun e W' ⟨he, bel⟩ => ?_
  subst he
  exact ⟨_, rfl, _, _, _, [], _, [], hW', trodAll_mk1 (shut_bool Try.underlying4 _), (trodAll_cons_mk (Below.trod laidOut (by kernel_rfl) (of_decide_eq_true (by kernel_rfl)) k0 bel lt0) trodAll_mk0), rfl, bel.frame _, fun h => by cases h⟩

theorem over : Rows.octetFormRow.holds Try.pinned (OpenSpec.ofChange Rows.octetFormSpec) :=
  OpenClaim.holds_of_wide 8 Try.f8 rfl rfl rfl rfl rfl rfl rfl ⟨rfl, rfl, rfl, rfl, rfl⟩ rfl rfl rfl rfl rfl (by kernel_rfl) Try.func8 (by kernel_rfl)
    (of_decide_eq_true (by kernel_rfl)) (by unfold Func.isWrapper; first | (rw [if_pos (by decide +kernel)]; kernel_rfl) | (rw [if_neg (by decide +kernel)]; exact ⟨rfl, rfl⟩))
    (fun os started H enc _ => lifted os started H enc)
/-- the given statement -/
theorem proved : Rows.OctetFormSaid := over
#print axioms proved
end Go.Proofs.Ytiebbbdkdpbpaaa.octetFormDone
