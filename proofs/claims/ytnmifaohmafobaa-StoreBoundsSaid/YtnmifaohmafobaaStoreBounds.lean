/- StoreBounds: for every input the law answers true and leaves its arguments as they were. -/
import Derived.Test.YtnmifaohmafobaaRows
import Derived.Test.YtnmifaohmafobaaStAF
import Derived.ProofKit
import Derived.OpenShut
import Derived.ShutString
import Derived.ChangeOld
namespace Go.Proofs.Ytnmifaohmafobaa.storeBoundsDone
open Go.RowKit Mem st Go.Shelf SM
set_option linter.unusedVariables false
set_option maxRecDepth 100000 in
set_option maxHeartbeats 8000000 in
theorem walk (ch rm : Int) (A : Option Addr) (n c : Nat) (ds : List DoV) (w : World) (_ : (Lit.int .i64 ch).wf = true) (_ : (Lit.int .i64 rm).wf = true) (hd : Dos w w.heap.size A n ds) (hc : n ≤ c) (hn : n ≤ 9223372036854775807) :
    Calls Try.prog 4 #[.int .i64 ch, .int .i64 rm, .slice A n c] w fun e w' => e = .returned (.bool true) ∧ Below w.heap.size w w' := by
  have HD := Lib.hid hd
  clear hd
  go_enter Try.func4, Try.ntmps4
  go_wp2_with fail
  refine (made_any ch rm none 0 0 [] w (Dos.none _ _) (Nat.le_refl _) (by omega)).mono ?_
  rintro e w1 ⟨s, b1, rfl, hb1, hm1⟩
  have HB1 := Lib.hid (And.intro hb1 hm1)
  clear hb1 hm1
  cases b1 with
  | false =>
    go_wp2_with fail
    refine (awake_any _).mono ?_
    rintro e wz ⟨rfl, hbz⟩
    go_wp2_with fail
    go_ret
    exact ⟨rfl, (HB1.out.1).trans (hbz.mono (HB1.out.1).size)⟩
  | true =>
    go_wp2_with fail
    refine (short_any A n c w.heap.size ds w1 (HD.out.below HB1.out.1 (Nat.le_refl _)) hc hn).mono ?_
    rintro e w' ⟨rfl, b, rfl, hl⟩
    cases b with
    | false =>
      go_wp2_with fail
      refine (awake_any _).mono ?_
      rintro e wz ⟨rfl, hbz⟩
      go_wp2_with fail
      go_ret
      exact ⟨rfl, (HB1.out.1).trans (hbz.mono (HB1.out.1).size)⟩
    | true =>
      obtain ⟨h300, hall⟩ := hl rfl
      have HALL := Lib.hid hall
      clear hl hall
      obtain ⟨_, _, Oa, hA⟩ := HB1.out.2 (by first | rfl | trivial)
      have he1 := mkM_eq ch
      have he2 := mkR_eq rm
      have HMR := Lib.hid (And.intro (mkM_ok ch) (mkR_ok rm))
      obtain ⟨M, hM⟩ : ∃ M, mkM ch = M := ⟨_, rfl⟩
      obtain ⟨R, hR⟩ : ∃ R, mkR rm = R := ⟨_, rfl⟩
      rw [hM, hR] at hA HMR
      rw [hM] at he1
      rw [hR] at he2
      replace hA : AtO w w' Oa s M R [] := hA
      have HEQ := Lib.hid (And.intro he1 he2)
      have HS0 : Hid (∃ La : List Ent, (∀ e ∈ La, e.held ≤ 0) ∧ AtO w w' Oa s M R La) := Lib.hid ⟨[], (fun e h => by cases h), hA⟩
      clear hA hM hR he1 he2 HB1
      go_wp2_with fail
      go_loopw [6, 33] (fun _ i wr => ∃ (j : Nat) (Pa : Nat → Prop), i = .int .i64 (j : Nat) ∧ j ≤ n ∧ Hid (∃ La : List Ent, (∀ e ∈ La, e.held ≤ j) ∧ AtO w wr Pa s M R La)) (fun _ i _ => n - (intOf i).toNat)
      case atStart => exact ⟨0, Oa, rfl, by omega, HS0⟩
      case round =>
        clear HS0
        obtain ⟨j, Pa, rfl, hj, HS⟩ := hrel
        obtain ⟨La, hha, hA⟩ := HS.out
        have hbw := hA.2.2
        have HHH := Lib.hid hha
        have HA := Lib.hid hA
        clear HS hha hA
        by_cases hlt : j < n
        · obtain ⟨b, off, dk, Di, Dmi, Dki, rfl, hb, c0, c1, c2, c3, hki, hr, hml, hjl, hdk⟩ := HD.out.at_ hlt
          have hmi : Dmi ≤ 65536 := by rw [hml, ← hdk]; exact HALL.out _ (List.getElem_mem hjl)
          have hj1 : (j : Int) < (n : Int) := by omega
          rw [show off + 4 * j = off + j * 4 by omega] at c0 c1 c2 c3
          replace c0 := (hbw.cell (p := ⟨b, off + j * 4, none⟩) hb).trans c0
          replace c1 := (hbw.cell (p := ⟨b, off + j * 4 + 1, none⟩) hb).trans c1
          replace c2 := (hbw.cell (p := ⟨b, off + j * 4 + 2, none⟩) hb).trans c2
          replace c3 := (hbw.cell (p := ⟨b, off + j * 4 + 3, none⟩) hb).trans c3
          have HR := Lib.hid hr
          clear hr hdk hml
          have hdo := does_any dk Di Dmi Dki _ (HA.out.alloc (.cells #[.int .i64 dk.op, .int .i64 dk.id, .slice Di Dmi Dki, .int .i64 dk.n] 34)) (fun e he => by have := HHH.out e he; omega) HR.out (by omega)
          have HDO := Lib.hid hdo
          clear hdo
          go_wp2_with fail
          refine HDO.out.mono ?_
          rintro e w5 ⟨rfl, O5, h5, _, _⟩
          clear HDO
          replace HA := Lib.hid h5
          replace HHH := Lib.hid (held_do (M := M) (R := R) dk HHH.out)
          obtain ⟨L1, hL1⟩ : ∃ L1, doL dk M R La = L1 := ⟨_, rfl⟩
          rw [hL1] at HA HHH h5
          clear hL1 h5 hbw c0 c1 c2 c3
          go_wp2_with fail
          have hof : ∀ i, O5 i → i < w5.heap.size := fun i hi => (HA.out.2.1 i hi).2
          refine (list_at2 w5 HA.out).mono ?_
          rintro e w6 ⟨va, rfl, hRa, hva, hb6⟩
          have hvo : ∀ a n c, va = .slice (some a) n c → ¬ O5 a.block := fun a n c e hO => by
            have h1 := (hva a n c e).1
            have h2 := hof _ hO
            omega
          replace HA := Lib.hid (HA.out.below hb6)
          obtain ⟨Aa, ca, rfl, hl32, hat⟩ := hRa
          have hR6 : RdS w6 (.slice Aa (sums L1).length ca) (sums L1) := ⟨Aa, ca, rfl, hl32, hat⟩
          have HND := Lib.hid HA.out.nodup
          have HFW := Lib.hid HA.out.few
          have HTO := Lib.hid HA.out.1.few
          have HRD := Lib.hid hR6
          rw [show (sums L1).length = L1.length from List.length_map _] at hvo HRD ⊢
          obtain ⟨NL, hNL⟩ : ∃ z : Nat, L1.length = z := ⟨_, rfl⟩
          rw [hNL] at hvo HRD ⊢
          have HNL := Lib.hid hNL
          have HVO := Lib.hid hvo
          have hN64 : NL ≤ 64 := by rw [← hNL]; exact HFW.out
          have htt : total L1 ≤ 8192 := Nat.le_trans HTO.out HMR.out.2.2
          have HTT := Lib.hid htt
          have HIN : Hid (AtO w w6 O5 s M R (turned L1 0)) := Lib.hid (by rw [turned_zero]; exact HA.out)
          clear hva hb6 hof hvo hNL hat hR6 hl32 htt HA
          go_wp2_with fail
          go_loopw [6, 11, 14, 15, 16, 44, 45, 46, 47, 48, 49, 50, 51, 52, 53, 54, 55, 56, 57, 58, 59, 60] (fun _ nn _ _ _ i _ _ _ _ _ _ _ _ _ _ _ _ _ _ _ _ wx => ∃ j2 N : Nat, nn = .int .i64 (N : Nat) ∧ i = .int .i64 (j2 : Nat) ∧ j2 ≤ NL ∧ Hid (N = total (L1.take j2)) ∧ Hid (AtO w wx O5 s M R (turned L1 j2)) ∧ Hid (RdS wx (.slice Aa NL ca) (sums L1))) (fun _ _ _ _ _ i _ _ _ _ _ _ _ _ _ _ _ _ _ _ _ _ _ => NL - (intOf i).toNat)
          case atStart => exact ⟨0, 0, rfl, rfl, by omega, Lib.hid rfl, HIN, HRD⟩
          case round =>
            clear HIN HRD
            obtain ⟨j2, N, rfl, rfl, hj2, HN, HA, HRD⟩ := hrel
            by_cases hlt2 : j2 < NL
            · have hjL : j2 < L1.length := by rw [HNL.out]; exact hlt2
              obtain ⟨Ax, cx, hex, hl32, hat⟩ := HRD.out
              injection hex with e1 e2 e3
              subst e1
              obtain ⟨g, o, rfl, hgl, hrg⟩ := hat j2 (by unfold sums; rw [List.length_map]; exact hjL)
              have hse : (sums L1)[j2]'(by unfold sums; rw [List.length_map]; exact hjL) = L1[j2].sum := by simp [sums]
              rw [hse] at hrg
              have hsl : (L1[j2].sum).length = 32 := hl32 _ (List.mem_map.2 ⟨_, List.getElem_mem hjL, rfl⟩)
              obtain ⟨tn1, tn2, tn3⟩ := turned_next HND.out j2 hjL
              have HTN := Lib.hid (And.intro tn1 (And.intro tn2 tn3))
              have htk := total_take_succ L1 j2 hjL
              have hle := total_take_le L1 (j2 + 1)
              have hN1 : N + (L1[j2].data).length ≤ 8192 := by rw [HN.out, ← htk]; exact Nat.le_trans hle HTT.out
              obtain ⟨XS, hXS⟩ : ∃ XS, bv (L1[j2].sum) = XS := ⟨_, rfl⟩
              have hxl : XS.length = 32 := by rw [← hXS, bv_len, hsl]
              have hxo : ∀ v ∈ XS, v.oneCell' = true := by rw [← hXS]; exact bv_one _
              rw [hXS] at hrg
              have HXS := Lib.hid (And.intro hXS hsl)
              have HTK := Lib.hid htk
              have hi1 : (j2 : Int) < (NL : Int) := by omega
              obtain ⟨DL, hDL⟩ : ∃ z : Nat, (L1[j2].data).length = z := ⟨_, rfl⟩
              rw [hDL] at hN1
              have HDL := Lib.hid hDL
              clear hl32 hat hse tn1 tn2 tn3 htk hle hXS hsl hDL e2 e3
              have HGL := Lib.hid (And.intro hgl hrg)
              go_wp2_with (first
                | (refine wpList_load_mid rfl 40 (.tmp 46) rfl g (o + j2 * 32) rfl XS _ hrg Try.underlying40 rfl (by rw [hxl]; exact info_sum) ?_)
                | (refine wpList_store_new rfl 40 (.tmp 14) (.tmp 47) rfl XS rfl rfl (by rw [hxl]; decide) (by rw [hxl]; exact info_sum) hxo ?_; intro x1 hr1 hbx1)
                | (refine wpList_load_mid rfl 40 (.tmp 14) rfl _ 0 rfl XS _ hr1 Try.underlying40 rfl (by rw [hxl]; exact info_sum) ?_)
                | fail)
              replace HA := Lib.hid (HA.out.below hbx1)
              replace HRD := Lib.hid (HRD.out.keep hbx1)
              rw [← HXS.out.1]
              refine (st.get_at (L1[j2].sum) x1 HXS.out.2 HA.out HTN.out.2.1).mono ?_
              rintro e x2 ⟨Ag, kg, cg, rfl, hog, h2, hk2⟩
              rw [HTN.out.1] at h2
              rw [HTN.out.2.2] at hog
              have hkg : kg = DL := by have := hog.len; rw [bv_len, HDL.out] at this; exact this.symm
              subst hkg
              replace HRD := Lib.hid (HRD.out.kept hk2 (fun a n c e => HVO.out a n c e))
              replace HA := Lib.hid h2
              rw [HXS.out.1]
              clear h2 hk2 hog hr1 hbx1
              go_wp2_with fail
              go_roundw
              case rel => exact ⟨j2 + 1, N + kg, by go_num, by go_num, by omega, Lib.hid (by rw [HTK.out, HDL.out, ← HN.out]), HA, HRD⟩
              case measure => simp only [intOf]; omega
            · obtain rfl : j2 = NL := by omega
              have hA1 := HA.out
              rw [← HNL.out, turned_all] at hA1
              have hNt : total L1 = N := by rw [HN.out, List.take_of_length_le (by rw [HNL.out]; exact Nat.le_refl _)]
              have hmo : L1.length ≤ M := by
                obtain ⟨r, g, mb, FA, fc, E, D, ns, fs, hB, hL, h0⟩ := hA1.1.row
                have := hB.count
                rw [hL, List.length_map]
                omega
              rw [HNL.out] at hmo
              have hto := HTO.out
              rw [hNt] at hto
              have hn8 : N ≤ 8192 := Nat.le_trans hto HMR.out.2.2
              replace HA := Lib.hid hA1
              have HNT := Lib.hid hNt
              clear hA1 hNt HN
              have q1 : ¬ (M : Int) < (j2 : Int) := by omega
              have q2 : ¬ (R : Int) < (N : Int) := by omega
              obtain ⟨he1, he2⟩ := HEQ.out
              go_wp2_with fail
              refine (bytes_any _ HA.out.1).mono ?_
              rintro e w' ⟨rfl, rfl⟩
              rw [HNT.out]
              go_wp2_with fail
              refine (len_any _ HA.out.1).mono ?_
              rintro e w' ⟨rfl, rfl⟩
              rw [HNL.out]
              go_wp2_with fail
              refine (len_any _ HA.out.1).mono ?_
              rintro e w' ⟨rfl, rfl⟩
              rw [HNL.out]
              go_wp2_with fail
              refine (list_at2 _ HA.out).mono ?_
              rintro e v8 ⟨vb, rfl, hRb, _, hb⟩
              have hRk := HRD.out.keep hb
              have hfew : (sums L1).length ≤ 100000 := by have := HFW.out; unfold sums; rw [List.length_map]; omega
              replace HA := Lib.hid (HA.out.below hb)
              have HRR := Lib.hid (And.intro hRb (And.intro hRk hfew))
              clear hb hRb hRk hfew HRD
              go_wp2_with fail
              refine (eqs_any (sums L1) (sums L1) vb _ v8 HRR.out.1 HRR.out.2.1 HRR.out.2.2 HRR.out.2.2).mono ?_
              rintro e v9 ⟨rfl, hb⟩
              rw [decide_eq_true rfl]
              replace HA := Lib.hid (HA.out.below hb)
              clear hb HRR
              go_wp2_with fail
              go_roundw
              case rel => exact ⟨j + 1, O5, by go_num, by omega, Lib.hid ⟨L1, HHH.out, HA.out⟩⟩
              case measure => simp only [intOf]; omega
        · obtain rfl : j = n := by omega
          go_wp2_with fail
          refine (awake_any _).mono ?_
          rintro e wz ⟨rfl, hbz⟩
          go_wp2_with fail
          go_ret
          exact ⟨rfl, (HA.out.2.2).trans (hbz.mono (HA.out.2.2).size)⟩
end Go.Proofs.Ytnmifaohmafobaa.storeBoundsDone
namespace Go.Proofs.Ytnmifaohmafobaa.storeBoundsDone
open Go.ChangeShapes Go.WideShapes Go.ChangeAt Go.RowKit Mem st Go.Shelf SM
set_option linter.unusedVariables false
theorem own : ownKnob Try.prog.godebug = none := by kernel_rfl
theorem laidOut : laidOutB Try.prog = true := by kernel_rfl
set_option maxRecDepth 100000 in
theorem lifted (os : Os) (started : os.Started) (H : Type) (enc : TypeId × Value → H) :
    ReturnsInHanded {} Try.checked os 4 .any (Rows.storeBoundsSpec.pre6 enc Try.prog Try.f4 Rows.storeBoundsRow.domain false) (Rows.storeBoundsSpec.post enc Try.prog Try.f4 false true false false) := by
  refine returnsInHanded_of_change (C := Try.checked) own started (by kernel_rfl) Try.func4
    (ChangeSpec.witness6 (enc := enc) (C := Try.checked) false ⟨#[], #[.int .i64 0, .int .i64 0, .slice none 0 0], []⟩ 8 (by kernel_rfl) (by kernel_rfl) (by kernel_rfl) (by kernel_rfl)) ?_
  intro W base args ds gs before hval0 hW hcnd _
  have hval : ∀ (j : Nat) t v, Try.f4.params[j]? = some t → args[j]? = some v → Value.okWide Try.prog W .any base t v := hval0
  have hW' := hW
  obtain ⟨p, q, hA0, hV, rfl, hfz, hnd⟩ := hW
  have hA : DataW.TrodAll enc Try.prog W 0 (fun _ => true) true Try.f4.params.toList args.toList ds p := hA0
  rw [Try.params4] at hA hval
  obtain ⟨v0, vs0, d0, ds0, p0, q0, hargs, rfl, rfl, h0, r0⟩ := trodAll_cons hA
  obtain ⟨v1, vs1, d1, ds1, p1, q1, rfl, rfl, rfl, h1, r1⟩ := trodAll_cons r0
  obtain ⟨v2, vs2, d2, ds2, p2, q2, rfl, rfl, rfl, h2, r2⟩ := trodAll_cons r1
  obtain ⟨rfl, rfl, rfl⟩ := trodAll_nil r2
  obtain rfl : args = #[v0, v1, v2] := by cases args; simp_all
  obtain ⟨rfl, rfl⟩ := trodVars_none hV
  obtain ⟨a0, rfl, rfl, rfl, w0⟩ := open_int Try.underlying3 (hval 0 3 v0 rfl rfl) h0
  obtain ⟨a1, rfl, rfl, rfl, w1⟩ := open_int Try.underlying3 (hval 1 3 v1 rfl rfl) h1
  obtain ⟨a2, n2, c2, rfl⟩ := okWide_slice Try.underlying22 (hval 2 22 v2 rfl rfl)
  have k2 := h2
  have lt2 : ∀ x ∈ p2, x.block < W.heap.size := by obtain ⟨m, hm⟩ := k2; exact DataW.trod_lt m _ _ _ hm
  obtain ⟨l2, w2, m2, b2⟩ : ∃ l : List DoV, Dos W W.heap.size a2 n2 l ∧ n2 ≤ c2 ∧ n2 ≤ 9223372036854775807 := by
    obtain ⟨fuel, hf⟩ := h2
    exact open_dos hf
  clear hA0 hval0
  refine (walk a0 a1 a2 n2 c2 l2 W w0 w1 w2 m2 b2).mono fun e W' ⟨he, bel⟩ => ?_
  subst he
  exact ⟨_, rfl, _, _, _, [], _, [], hW', trodAll_mk1 (shut_bool Try.underlying4 _), (trodAll_cons_mk (shut_int Try.underlying3 w0) (trodAll_cons_mk (shut_int Try.underlying3 w1) (trodAll_cons_mk (Below.trod laidOut (by kernel_rfl) (of_decide_eq_true (by kernel_rfl)) k2 bel lt2) trodAll_mk0))), rfl, bel.frame _, fun h => by cases h⟩

theorem over : Rows.storeBoundsRow.holds Try.pinned (OpenSpec.ofChange Rows.storeBoundsSpec) :=
  OpenClaim.holds_of_wide 4 Try.f4 rfl rfl rfl rfl rfl rfl rfl ⟨rfl, rfl, rfl, rfl, rfl⟩ rfl rfl rfl rfl rfl (by kernel_rfl) Try.func4 (by kernel_rfl)
    (of_decide_eq_true (by kernel_rfl)) (by unfold Func.isWrapper; first | (rw [if_pos (by decide +kernel)]; kernel_rfl) | (rw [if_neg (by decide +kernel)]; exact ⟨rfl, rfl⟩))
    (fun os started H enc _ => lifted os started H enc)
/-- the given statement -/
theorem proved : Rows.StoreBoundsSaid := over
#print axioms proved
end Go.Proofs.Ytnmifaohmafobaa.storeBoundsDone
