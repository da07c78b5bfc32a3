/- StoreWiped: for every input the law answers true and leaves its arguments as they were. -/
import Derived.Test.YtnmifaohmafobaaRows
import Derived.Test.YtnmifaohmafobaaStAD
import Derived.ProofKit
import Derived.OpenShut
import Derived.ShutString
import Derived.ChangeOld
namespace Go.Proofs.Ytnmifaohmafobaa.storeWipedDone
open Go.RowKit Mem st Go.Shelf SM
set_option linter.unusedVariables false
set_option maxRecDepth 100000 in
set_option maxHeartbeats 8000000 in
theorem walk (ch rm : Int) (A : Option Addr) (n c : Nat) (ds : List DoV) (A3 : Option Addr) (n3 c3 : Nat) (es : List DoV) (w : World) (_ : (Lit.int .i64 ch).wf = true) (_ : (Lit.int .i64 rm).wf = true) (hd : Dos w w.heap.size A n ds) (hc : n ≤ c) (hn : n ≤ 9223372036854775807) (hd3 : Dos w w.heap.size A3 n3 es) (hc3 : n3 ≤ c3) (hn3 : n3 ≤ 9223372036854775807) :
    Calls Try.prog 9 #[.int .i64 ch, .int .i64 rm, .slice A n c, .slice A3 n3 c3] w fun e w' => e = .returned (.bool true) ∧ Below w.heap.size w w' := by
  have HD := Lib.hid hd
  have HE := Lib.hid hd3
  clear hd hd3
  go_enter Try.func9, Try.ntmps9
  go_wp2_with fail
  refine (made_any ch rm A n c ds w HD.out hc hn).mono ?_
  rintro e w1 ⟨sa, b1, rfl, hb1, hm1⟩
  have HB1 := Lib.hid (And.intro hb1 hm1)
  clear hb1 hm1
  go_wp2_with fail
  refine (made_any ch rm none 0 0 [] w1 (Dos.none _ _) (Nat.le_refl _) (by omega)).mono ?_
  rintro e w2 ⟨sb, b2, rfl, hb2, hm2⟩
  have HB2 := Lib.hid (And.intro (HB1.out.1.trans (hb2.mono HB1.out.1.size)) (And.intro hb2 hm2))
  clear hb2 hm2
  cases b1 with
  | false =>
    go_wp2_with fail
    refine (awake_any _).mono ?_
    rintro e wz ⟨rfl, hbz⟩
    go_wp2_with fail
    go_ret
    exact ⟨rfl, (HB2.out.1).trans (hbz.mono (HB2.out.1).size)⟩
  | true =>
    cases b2 with
    | false =>
      go_wp2_with fail
      refine (awake_any _).mono ?_
      rintro e wz ⟨rfl, hbz⟩
      go_wp2_with fail
      go_ret
      exact ⟨rfl, (HB2.out.1).trans (hbz.mono (HB2.out.1).size)⟩
    | true =>
      have hsh := short_any A3 n3 c3 w.heap.size es w2 (HE.out.below HB2.out.1 (Nat.le_refl _)) hc3 hn3
      have HSH := Lib.hid hsh
      clear hsh
      go_wp2_with fail
      refine HSH.out.mono ?_
      rintro e w' ⟨rfl, b, rfl, hl⟩
      clear HSH
      cases b with
      | false =>
        go_wp2_with fail
        refine (awake_any _).mono ?_
        rintro e wz ⟨rfl, hbz⟩
        go_wp2_with fail
        go_ret
        exact ⟨rfl, (HB2.out.1).trans (hbz.mono (HB2.out.1).size)⟩
      | true =>
        obtain ⟨h300, hall⟩ := hl rfl
        have HALL := Lib.hid hall
        clear hl hall
        obtain ⟨_, _, Oa, hA⟩ := HB1.out.2 (by first | rfl | trivial)
        obtain ⟨_, _, Ob, hB⟩ := HB2.out.2.2 (by first | rfl | trivial)
        obtain ⟨M, hM⟩ : ∃ M, mkM ch = M := ⟨_, rfl⟩
        obtain ⟨R, hR⟩ : ∃ R, mkR rm = R := ⟨_, rfl⟩
        rw [hM, hR] at hA hB
        replace hB : AtO w1 w' Ob sb M R [] := hB
        have hab := sep_new hA hB
        have hB' := hB.base HB1.out.1
        have hA' := hA.below HB2.out.2.1
        have HA := Lib.hid hA'
        have HB := Lib.hid hB'
        have HSP := Lib.hid hab
        clear hA hB hA' hB' hab hM hR
        go_wp2_with fail
        refine (wipe_st w' HA.out).mono ?_
        rintro e w3 ⟨rfl, Oa2, h2, hk, ho⟩
        have hB2 := HB.out.beside HSP.out hk HA.out.low ho
        replace HA := Lib.hid h2
        replace HB := Lib.hid hB2.1
        replace HSP := Lib.hid hB2.2
        clear h2 hk ho hB2
        go_wp2_with fail
        refine (len_any w3 HA.out.1).mono ?_
        rintro e w' ⟨rfl, rfl⟩
        rw [show ([] : List Ent).length = 0 from rfl]
        go_wp2_with fail
        refine (bytes_any w3 HA.out.1).mono ?_
        rintro e w' ⟨rfl, rfl⟩
        rw [show total ([] : List Ent) = 0 from rfl]
        go_wp2_with fail
        refine (list_at2 w3 HA.out).mono ?_
        rintro e w4 ⟨vl, rfl, hR, _, hb⟩
        obtain ⟨Al, cl, rfl, _, _⟩ := hR
        rw [show (sums ([] : List Ent)).length = 0 from rfl]
        replace HA := Lib.hid (HA.out.below hb)
        replace HB := Lib.hid (HB.out.below hb)
        clear hb
        have HS0 : Hid (∃ La : List Ent, (∀ e ∈ La, e.held ≤ 0) ∧ AtO w w4 Oa2 sa M R La ∧ AtO w w4 Ob sb M R La ∧ Sep Oa2 Ob) := Lib.hid ⟨[], (fun e h => by cases h), HA.out, HB.out, HSP.out⟩
        clear HA HB HSP HB2 HB1
        go_wp2_with fail
        go_loopw [8, 14, 54] (fun _ _ i wr => ∃ (j : Nat) (Pa Pb : Nat → Prop), i = .int .i64 (j : Nat) ∧ j ≤ n3 ∧ Hid (∃ La : List Ent, (∀ e ∈ La, e.held ≤ j) ∧ AtO w wr Pa sa M R La ∧ AtO w wr Pb sb M R La ∧ Sep Pa Pb)) (fun _ _ i _ => n3 - (intOf i).toNat)
        case atStart => exact ⟨0, Oa2, Ob, rfl, by omega, HS0⟩
        case round =>
          clear HS0
          obtain ⟨j, Pa, Pb, rfl, hj, HS⟩ := hrel
          obtain ⟨La, hha, hA, hB, hab⟩ := HS.out
          have hbw := hA.2.2
          have HHH := Lib.hid hha
          have HA := Lib.hid hA
          have HB := Lib.hid hB
          have HSP := Lib.hid hab
          clear HS hha hA hB hab
          by_cases hlt : j < n3
          · have HSQ := Lib.hid (And.intro (fun i hi => (HA.out.2.1 i hi).2 : ∀ i, Pa i → i < wr.heap.size) (fun i hi => (HB.out.2.1 i hi).2 : ∀ i, Pb i → i < wr.heap.size))
            obtain ⟨b, off, dk, Di, Dmi, Dki, rfl, hb, c0, c1, c2, c3, hki, hr, hml, hjl, hdk⟩ := HE.out.at_ hlt
            have hmi : Dmi ≤ 65536 := by rw [hml, ← hdk]; exact HALL.out _ (List.getElem_mem hjl)
            have hj1 : (j : Int) < (n3 : Int) := by omega
            rw [show off + 4 * j = off + j * 4 by omega] at c0 c1 c2 c3
            replace c0 := (hbw.cell (p := ⟨b, off + j * 4, none⟩) hb).trans c0
            replace c1 := (hbw.cell (p := ⟨b, off + j * 4 + 1, none⟩) hb).trans c1
            replace c2 := (hbw.cell (p := ⟨b, off + j * 4 + 2, none⟩) hb).trans c2
            replace c3 := (hbw.cell (p := ⟨b, off + j * 4 + 3, none⟩) hb).trans c3
            have HR := Lib.hid hr
            clear hr hdk hml
            have hx0 : ∀ (x : World), x = wr.alloc (.cells #[.int .i64 dk.op, .int .i64 dk.id, .slice Di Dmi Dki, .int .i64 dk.n] 34) → x.cell? ⟨wr.heap.size, 0, none⟩ = some (.int .i64 dk.op) ∧ x.cell? ⟨wr.heap.size, 1, none⟩ = some (.int .i64 dk.id) ∧ x.cell? ⟨wr.heap.size, 2, none⟩ = some (.slice Di Dmi Dki) ∧ x.cell? ⟨wr.heap.size, 3, none⟩ = some (.int .i64 dk.n) := fun x hx => by
              subst hx
              refine ⟨?_, ?_, ?_, ?_⟩ <;> go_simp
            have HX := Lib.hid hx0
            clear hx0
            go_wp2_with fail
            have hcl := HX.out _ rfl
            replace HA := Lib.hid (HA.out.alloc (.cells #[.int .i64 dk.op, .int .i64 dk.id, .slice Di Dmi Dki, .int .i64 dk.n] 34))
            replace HB := Lib.hid (HB.out.alloc (.cells #[.int .i64 dk.op, .int .i64 dk.id, .slice Di Dmi Dki, .int .i64 dk.n] 34))
            have hgs : wr.heap.size < (wr.alloc (.cells #[.int .i64 dk.op, .int .i64 dk.id, .slice Di Dmi Dki, .int .i64 dk.n] 34)).heap.size := by simp
            obtain ⟨x2, hx1⟩ : ∃ z, wr.alloc (.cells #[.int .i64 dk.op, .int .i64 dk.id, .slice Di Dmi Dki, .int .i64 dk.n] 34) = z := ⟨_, rfl⟩
            rw [hx1] at HA HB hcl hgs ⊢
            have HCL := Lib.hid hcl
            have HGS := Lib.hid hgs
            clear hx1 hcl hgs
            refine wp_region_held_drew (S := fun y => y.cell? ⟨wr.heap.size, 0, none⟩ = some (.int .i64 dk.op) ∧ y.cell? ⟨wr.heap.size, 1, none⟩ = some (.int .i64 dk.id) ∧ y.cell? ⟨wr.heap.size, 2, none⟩ = some (.slice Di Dmi Dki) ∧ y.cell? ⟨wr.heap.size, 3, none⟩ = some (.int .i64 dk.n)) (by kernel_rfl) HCL.out (fun hHeld => ?_)
            replace HA := Lib.hid HA.out.drew
            replace HB := Lib.hid HB.out.drew
            replace HGS := Lib.hid (show wr.heap.size < x2.drew.heap.size from HGS.out)
            obtain ⟨y0, hy⟩ : ∃ z, x2.drew = z := ⟨_, rfl⟩
            rw [hy] at HA HB HGS hHeld ⊢
            replace HCL := Lib.hid hHeld
            clear hy
            refine wpAnyH_take (i := 0) (oi := { dst := some 58, op := Op.move (Operand.tmp 9), type := 23, pos := "law.go:273", after := #[], guard := none }) (v := .pointer (some ⟨sa, 0, none⟩)) rfl (by kernel_rfl) (by kernel_rfl) (by kernel_rfl) (fun _ _ _ h => h) (Or.inl ⟨by rfl, ?hy0_1⟩) (by assumption) ?rest0_1
            case hy0_1 => (intro w hSw; (try dsimp only at hSw); go_split_ands; go_simp; try with_reducible rfl)
            try simp only [Act.put, List.setIfInBounds_toArray, List.set_cons_zero, List.set_cons_succ]
            refine wpAnyH_take (i := 1) (oi := { dst := some 59, op := Op.load 34 (Operand.tmp 14), type := 34, pos := "law.go:273", after := #[], guard := none }) (v := .agg #[.int .i64 dk.op, .int .i64 dk.id, .slice Di Dmi Dki, .int .i64 dk.n]) rfl (by kernel_rfl) (by kernel_rfl) (by kernel_rfl) (fun _ _ _ h => h) (Or.inl ⟨by rfl, ?hy1_2⟩) (by assumption) ?rest1_2
            case hy1_2 => (intro w hSw; (try dsimp only at hSw); go_split_ands; go_simp; try with_reducible rfl)
            try simp only [Act.put, List.setIfInBounds_toArray, List.set_cons_zero, List.set_cons_succ]
            refine wpAnyH_take (i := 3) (oi := { dst := some 61, op := Op.move (Operand.tmp 11), type := 23, pos := "law.go:273", after := #[], guard := none }) (v := .pointer (some ⟨sb, 0, none⟩)) rfl (by kernel_rfl) (by kernel_rfl) (by kernel_rfl) (fun _ _ _ h => h) (Or.inl ⟨by rfl, ?hy3_3⟩) (by assumption) ?rest3_3
            case hy3_3 => (intro w hSw; (try dsimp only at hSw); go_split_ands; go_simp; try with_reducible rfl)
            try simp only [Act.put, List.setIfInBounds_toArray, List.set_cons_zero, List.set_cons_succ]
            refine wpAnyH_take (i := 4) (oi := { dst := some 62, op := Op.load 34 (Operand.tmp 14), type := 34, pos := "law.go:273", after := #[], guard := none }) (v := .agg #[.int .i64 dk.op, .int .i64 dk.id, .slice Di Dmi Dki, .int .i64 dk.n]) rfl (by kernel_rfl) (by kernel_rfl) (by kernel_rfl) (fun _ _ _ h => h) (Or.inl ⟨by rfl, ?hy4_4⟩) (by assumption) ?rest4_4
            case hy4_4 => (intro w hSw; (try dsimp only at hSw); go_split_ands; go_simp; try with_reducible rfl)
            try simp only [Act.put, List.setIfInBounds_toArray, List.set_cons_zero, List.set_cons_succ]
            refine wpAnyH_ready (rs := [2]) (by kernel_rfl) (by simp) ?_
            refine AllReadyH.cons (o := { dst := some 60, op := Op.call { callee := Callee.value (Operand.func 28), args := #[Operand.tmp 58, Operand.tmp 59], argTypes := #[23, 34] }, type := 24, pos := "law.go:273", after := #[{ on := 0, ground := Ground.data }, { on := 1, ground := Ground.data }], guard := none }) rfl (fun K hK => ?_) AllReadyH.nil
            go_simp
            refine (does_any dk Di Dmi Dki y0 HA.out (fun e he => by have := HHH.out e he; omega) HR.out (by omega)).mono ?_
            rintro e y1 ⟨rfl, Pa2, h2, hk, ho⟩
            have hB2 := HB.out.beside HSP.out hk HA.out.low ho
            have hne : ∀ o, y1.cell? ⟨wr.heap.size, o, none⟩ = y0.cell? ⟨wr.heap.size, o, none⟩ := fun o => hk.cell (a := ⟨wr.heap.size, o, none⟩) HGS.out (fun e => by
              rcases e with e | e
              · have := HSQ.out.1 wr.heap.size e; omega
              · have := HGS.out; have e2 : y0.heap.size ≤ wr.heap.size := e; omega)
            replace HCL := Lib.hid (show y1.cell? ⟨wr.heap.size, 0, none⟩ = some (.int .i64 dk.op) ∧ y1.cell? ⟨wr.heap.size, 1, none⟩ = some (.int .i64 dk.id) ∧ y1.cell? ⟨wr.heap.size, 2, none⟩ = some (.slice Di Dmi Dki) ∧ y1.cell? ⟨wr.heap.size, 3, none⟩ = some (.int .i64 dk.n) by simp only [hne]; exact HCL.out)
            replace HGS := Lib.hid (Nat.lt_of_lt_of_le HGS.out hk.size)
            replace HSP := Lib.hid hB2.2
            replace HA := Lib.hid h2
            replace HB := Lib.hid hB2.1
            clear hB2 h2 hk ho hne
            go_wp2_with fail
            refine hK.out _ _ HCL.out (fun hHeld => ?_)
            clear hK K
            try simp only [Act.put, List.setIfInBounds_toArray, List.set_cons_zero, List.set_cons_succ]
            refine wpAnyH_ready (rs := [5]) (by kernel_rfl) (by simp) ?_
            refine AllReadyH.cons (o := { dst := some 63, op := Op.call { callee := Callee.value (Operand.func 28), args := #[Operand.tmp 61, Operand.tmp 62], argTypes := #[23, 34] }, type := 24, pos := "law.go:273", after := #[{ on := 3, ground := Ground.data }, { on := 4, ground := Ground.data }, { on := 2, ground := Ground.chain }], guard := none }) rfl (fun K hK => ?_) AllReadyH.nil
            go_simp
            refine (does_any dk Di Dmi Dki y1 HB.out (fun e he => by have := HHH.out e he; omega) HR.out (by omega)).mono ?_
            rintro e y2 ⟨rfl, Pb2, h2, hk, ho⟩
            have hA2 := HA.out.beside HSP.out.symm hk HB.out.low ho
            have hne : ∀ o, y2.cell? ⟨wr.heap.size, o, none⟩ = y1.cell? ⟨wr.heap.size, o, none⟩ := fun o => hk.cell (a := ⟨wr.heap.size, o, none⟩) HGS.out (fun e => by
              rcases e with e | e
              · have := HSQ.out.2 wr.heap.size e; omega
              · have := HGS.out; have e2 : y1.heap.size ≤ wr.heap.size := e; omega)
            replace HCL := Lib.hid (show y2.cell? ⟨wr.heap.size, 0, none⟩ = some (.int .i64 dk.op) ∧ y2.cell? ⟨wr.heap.size, 1, none⟩ = some (.int .i64 dk.id) ∧ y2.cell? ⟨wr.heap.size, 2, none⟩ = some (.slice Di Dmi Dki) ∧ y2.cell? ⟨wr.heap.size, 3, none⟩ = some (.int .i64 dk.n) by simp only [hne]; exact HCL.out)
            replace HGS := Lib.hid (Nat.lt_of_lt_of_le HGS.out hk.size)
            replace HSP := Lib.hid hA2.2.symm
            replace HB := Lib.hid h2
            replace HA := Lib.hid hA2.1
            clear hA2 h2 hk ho hne
            replace HHH := Lib.hid (held_do (M := M) (R := R) dk HHH.out)
            have hcell := HCL.out
            go_wp2_with fail
            refine hK.out _ _ HCL.out (fun hHeld => ?_)
            clear hK K hcell
            try simp only [Act.put, List.setIfInBounds_toArray, List.set_cons_zero, List.set_cons_succ]
            refine wpAnyH_take (i := 6) (oi := { dst := some 64, op := Op.binOp BinOp.neq 24 (Operand.tmp 60) (Operand.tmp 63) 24, type := 4, pos := "law.go:273", after := #[{ on := 2, ground := Ground.data }, { on := 5, ground := Ground.data }], guard := none }) (v := .bool false) rfl (by kernel_rfl) (by kernel_rfl) (by kernel_rfl) (fun _ _ _ h => h) (Or.inl ⟨by rfl, ?hy6_5⟩) (by assumption) ?rest6_5
            case hy6_5 => (intro w hSw; (try dsimp only at hSw); go_split_ands; go_simp; try with_reducible rfl)
            try simp only [Act.put, List.setIfInBounds_toArray, List.set_cons_zero, List.set_cons_succ]
            refine wpAnyH_take (i := 7) (oi := { dst := some 65, op := Op.move (Operand.tmp 64), type := 4, pos := "law.go:273", after := #[{ on := 6, ground := Ground.data }, { on := 5, ground := Ground.chain }], guard := none }) (v := .bool false) rfl (by kernel_rfl) (by kernel_rfl) (by kernel_rfl) (fun _ _ _ h => h) (Or.inl ⟨by rfl, ?hy7_6⟩) (by assumption) ?rest7_6
            case hy7_6 => (intro w hSw; (try dsimp only at hSw); go_split_ands; go_simp; try with_reducible rfl)
            try simp only [Act.put, List.setIfInBounds_toArray, List.set_cons_zero, List.set_cons_succ]
            obtain ⟨L2, hL2⟩ : ∃ L2, doL dk M R La = L2 := ⟨_, rfl⟩
            rw [hL2] at HA HB HHH
            clear hL2
            refine wpAnyH_take (i := 8) (oi := { dst := some 66, op := Op.move (Operand.tmp 9), type := 23, pos := "law.go:273", after := #[{ on := 7, ground := Ground.guard }], guard := some (7, false) }) (v := .pointer (some ⟨sa, 0, none⟩)) rfl (by kernel_rfl) (by kernel_rfl) (by kernel_rfl) (fun _ _ _ h => h) (Or.inl ⟨by rfl, ?hy8_7⟩) (by assumption) ?rest8_7
            case hy8_7 => (intro w hSw; (try dsimp only at hSw); go_split_ands; go_simp; try with_reducible rfl)
            try simp only [Act.put, List.setIfInBounds_toArray, List.set_cons_zero, List.set_cons_succ]
            refine wpAnyH_take (i := 10) (oi := { dst := some 68, op := Op.move (Operand.tmp 11), type := 23, pos := "law.go:273", after := #[{ on := 7, ground := Ground.guard }], guard := some (7, false) }) (v := .pointer (some ⟨sb, 0, none⟩)) rfl (by kernel_rfl) (by kernel_rfl) (by kernel_rfl) (fun _ _ _ h => h) (Or.inl ⟨by rfl, ?hy10_8⟩) (by assumption) ?rest10_8
            case hy10_8 => (intro w hSw; (try dsimp only at hSw); go_split_ands; go_simp; try with_reducible rfl)
            try simp only [Act.put, List.setIfInBounds_toArray, List.set_cons_zero, List.set_cons_succ]
            refine wpAnyH_ready (rs := [9]) (by kernel_rfl) (by simp) ?_
            refine AllReadyH.cons (o := { dst := some 67, op := Op.call { callee := Callee.value (Operand.func 35), args := #[Operand.tmp 66], argTypes := #[23] }, type := 51, pos := "law.go:273", after := #[{ on := 8, ground := Ground.data }, { on := 7, ground := Ground.chain }, { on := 7, ground := Ground.guard }], guard := some (7, false) }) rfl (fun K hK => ?_) AllReadyH.nil
            go_simp
            refine (list_at2 y2 HA.out).mono ?_
            rintro e y3 ⟨va, rfl, hRa, _, hb⟩
            have HRA := Lib.hid hRa
            clear hRa
            have hne : ∀ o, y3.cell? ⟨wr.heap.size, o, none⟩ = y2.cell? ⟨wr.heap.size, o, none⟩ := fun o => hb.cell (p := ⟨wr.heap.size, o, none⟩) HGS.out
            replace HCL := Lib.hid (show y3.cell? ⟨wr.heap.size, 0, none⟩ = some (.int .i64 dk.op) ∧ y3.cell? ⟨wr.heap.size, 1, none⟩ = some (.int .i64 dk.id) ∧ y3.cell? ⟨wr.heap.size, 2, none⟩ = some (.slice Di Dmi Dki) ∧ y3.cell? ⟨wr.heap.size, 3, none⟩ = some (.int .i64 dk.n) by simp only [hne]; exact HCL.out)
            replace HGS := Lib.hid (Nat.lt_of_lt_of_le HGS.out hb.size)
            replace HA := Lib.hid (HA.out.below hb)
            replace HB := Lib.hid (HB.out.below hb)
            clear hne hb
            go_wp2_with fail
            refine hK.out _ _ HCL.out (fun hHeld => ?_)
            clear hK K
            try simp only [Act.put, List.setIfInBounds_toArray, List.set_cons_zero, List.set_cons_succ]
            refine wpAnyH_ready (rs := [11]) (by kernel_rfl) (by simp) ?_
            refine AllReadyH.cons (o := { dst := some 69, op := Op.call { callee := Callee.value (Operand.func 35), args := #[Operand.tmp 68], argTypes := #[23] }, type := 51, pos := "law.go:273", after := #[{ on := 10, ground := Ground.data }, { on := 9, ground := Ground.chain }, { on := 7, ground := Ground.guard }], guard := some (7, false) }) rfl (fun K hK => ?_) AllReadyH.nil
            go_simp
            refine (list_at2 y3 HB.out).mono ?_
            rintro e y4 ⟨vb, rfl, hRb, _, hb⟩
            replace HRA := Lib.hid (HRA.out.keep hb)
            have HRB := Lib.hid hRb
            clear hRb
            have hne : ∀ o, y4.cell? ⟨wr.heap.size, o, none⟩ = y3.cell? ⟨wr.heap.size, o, none⟩ := fun o => hb.cell (p := ⟨wr.heap.size, o, none⟩) HGS.out
            replace HCL := Lib.hid (show y4.cell? ⟨wr.heap.size, 0, none⟩ = some (.int .i64 dk.op) ∧ y4.cell? ⟨wr.heap.size, 1, none⟩ = some (.int .i64 dk.id) ∧ y4.cell? ⟨wr.heap.size, 2, none⟩ = some (.slice Di Dmi Dki) ∧ y4.cell? ⟨wr.heap.size, 3, none⟩ = some (.int .i64 dk.n) by simp only [hne]; exact HCL.out)
            replace HGS := Lib.hid (Nat.lt_of_lt_of_le HGS.out hb.size)
            replace HA := Lib.hid (HA.out.below hb)
            replace HB := Lib.hid (HB.out.below hb)
            clear hne hb
            go_wp2_with fail
            refine hK.out _ _ HCL.out (fun hHeld => ?_)
            clear hK K
            try simp only [Act.put, List.setIfInBounds_toArray, List.set_cons_zero, List.set_cons_succ]
            refine wpAnyH_ready (rs := [12]) (by kernel_rfl) (by simp) ?_
            refine AllReadyH.cons (o := { dst := some 70, op := Op.call { callee := Callee.value (Operand.func 34), args := #[Operand.tmp 67, Operand.tmp 69], argTypes := #[51, 51] }, type := 4, pos := "law.go:273", after := #[{ on := 9, ground := Ground.data }, { on := 11, ground := Ground.data }, { on := 11, ground := Ground.chain }, { on := 7, ground := Ground.guard }], guard := some (7, false) }) rfl (fun K hK => ?_) AllReadyH.nil
            go_simp
            have hfew : (sums L2).length ≤ 100000 := by have := HA.out.few; unfold sums; rw [List.length_map]; omega
            refine (eqs_any (sums L2) (sums L2) va vb y4 HRA.out HRB.out hfew hfew).mono ?_
            rintro e y5 ⟨rfl, hb⟩
            rw [decide_eq_true rfl]
            clear hfew HRA HRB
            have hne : ∀ o, y5.cell? ⟨wr.heap.size, o, none⟩ = y4.cell? ⟨wr.heap.size, o, none⟩ := fun o => hb.cell (p := ⟨wr.heap.size, o, none⟩) HGS.out
            replace HCL := Lib.hid (show y5.cell? ⟨wr.heap.size, 0, none⟩ = some (.int .i64 dk.op) ∧ y5.cell? ⟨wr.heap.size, 1, none⟩ = some (.int .i64 dk.id) ∧ y5.cell? ⟨wr.heap.size, 2, none⟩ = some (.slice Di Dmi Dki) ∧ y5.cell? ⟨wr.heap.size, 3, none⟩ = some (.int .i64 dk.n) by simp only [hne]; exact HCL.out)
            replace HGS := Lib.hid (Nat.lt_of_lt_of_le HGS.out hb.size)
            replace HA := Lib.hid (HA.out.below hb)
            replace HB := Lib.hid (HB.out.below hb)
            clear hne hb
            go_wp2_with fail
            refine hK.out _ _ HCL.out (fun hHeld => ?_)
            clear hK K
            try simp only [Act.put, List.setIfInBounds_toArray, List.set_cons_zero, List.set_cons_succ]
            refine wpAnyH_take (i := 13) (oi := { dst := some 71, op := Op.unOp UnOp.not 4 (Operand.tmp 70), type := 4, pos := "law.go:273", after := #[{ on := 12, ground := Ground.data }, { on := 7, ground := Ground.guard }], guard := some (7, false) }) (v := .bool false) rfl (by kernel_rfl) (by kernel_rfl) (by kernel_rfl) (fun _ _ _ h => h) (Or.inl ⟨by rfl, ?hy13_9⟩) (by assumption) ?rest13_9
            case hy13_9 => (intro w hSw; (try dsimp only at hSw); go_split_ands; go_simp; try with_reducible rfl)
            try simp only [Act.put, List.setIfInBounds_toArray, List.set_cons_zero, List.set_cons_succ]
            refine wpAnyH_take (i := 14) (oi := { dst := some 72, op := Op.pick (Operand.tmp 65) (Operand.const (Value.bool true)) (Operand.tmp 71), type := 4, pos := "law.go:273", after := #[{ on := 7, ground := Ground.data }, { on := 13, ground := Ground.data }], guard := none }) (v := .bool false) rfl (by kernel_rfl) (by kernel_rfl) (by kernel_rfl) (fun _ _ _ h => h) (Or.inl ⟨by rfl, ?hy14_10⟩) (by assumption) ?rest14_10
            case hy14_10 => (intro w hSw; (try dsimp only at hSw); go_split_ands; go_simp; try with_reducible rfl)
            try simp only [Act.put, List.setIfInBounds_toArray, List.set_cons_zero, List.set_cons_succ]
            refine wpAnyH_take (i := 15) (oi := { dst := some 73, op := Op.move (Operand.tmp 72), type := 4, pos := "law.go:273", after := #[{ on := 14, ground := Ground.data }, { on := 12, ground := Ground.chain }], guard := none }) (v := .bool false) rfl (by kernel_rfl) (by kernel_rfl) (by kernel_rfl) (fun _ _ _ h => h) (Or.inl ⟨by rfl, ?hy15_11⟩) (by assumption) ?rest15_11
            case hy15_11 => (intro w hSw; (try dsimp only at hSw); go_split_ands; go_simp; try with_reducible rfl)
            try simp only [Act.put, List.setIfInBounds_toArray, List.set_cons_zero, List.set_cons_succ]
            refine wpAnyH_take (i := 16) (oi := { dst := some 74, op := Op.move (Operand.tmp 9), type := 23, pos := "law.go:273", after := #[{ on := 15, ground := Ground.guard }], guard := some (15, false) }) (v := .pointer (some ⟨sa, 0, none⟩)) rfl (by kernel_rfl) (by kernel_rfl) (by kernel_rfl) (fun _ _ _ h => h) (Or.inl ⟨by rfl, ?hy16_12⟩) (by assumption) ?rest16_12
            case hy16_12 => (intro w hSw; (try dsimp only at hSw); go_split_ands; go_simp; try with_reducible rfl)
            try simp only [Act.put, List.setIfInBounds_toArray, List.set_cons_zero, List.set_cons_succ]
            refine wpAnyH_take (i := 18) (oi := { dst := some 76, op := Op.move (Operand.tmp 11), type := 23, pos := "law.go:273", after := #[{ on := 15, ground := Ground.guard }], guard := some (15, false) }) (v := .pointer (some ⟨sb, 0, none⟩)) rfl (by kernel_rfl) (by kernel_rfl) (by kernel_rfl) (fun _ _ _ h => h) (Or.inl ⟨by rfl, ?hy18_13⟩) (by assumption) ?rest18_13
            case hy18_13 => (intro w hSw; (try dsimp only at hSw); go_split_ands; go_simp; try with_reducible rfl)
            try simp only [Act.put, List.setIfInBounds_toArray, List.set_cons_zero, List.set_cons_succ]
            obtain ⟨TT, hTT⟩ : ∃ z : Nat, total L2 = z := ⟨_, rfl⟩
            have HTT := Lib.hid hTT
            clear hTT
            refine wpAnyH_ready (rs := [17]) (by kernel_rfl) (by simp) ?_
            refine AllReadyH.cons (o := { dst := some 75, op := Op.call { callee := Callee.value (Operand.func 32), args := #[Operand.tmp 74], argTypes := #[23] }, type := 3, pos := "law.go:273", after := #[{ on := 16, ground := Ground.data }, { on := 15, ground := Ground.chain }, { on := 15, ground := Ground.guard }], guard := some (15, false) }) rfl (fun K hK => ?_) AllReadyH.nil
            go_simp
            refine (bytes_any y5 HA.out.1).mono ?_
            rintro e w' ⟨rfl, rfl⟩
            rw [HTT.out]
            go_wp2_with fail
            refine hK.out _ _ HCL.out (fun hHeld => ?_)
            clear hK K
            try simp only [Act.put, List.setIfInBounds_toArray, List.set_cons_zero, List.set_cons_succ]
            refine wpAnyH_ready (rs := [19]) (by kernel_rfl) (by simp) ?_
            refine AllReadyH.cons (o := { dst := some 77, op := Op.call { callee := Callee.value (Operand.func 32), args := #[Operand.tmp 76], argTypes := #[23] }, type := 3, pos := "law.go:273", after := #[{ on := 18, ground := Ground.data }, { on := 17, ground := Ground.chain }, { on := 15, ground := Ground.guard }], guard := some (15, false) }) rfl (fun K hK => ?_) AllReadyH.nil
            go_simp
            refine (bytes_any y5 HB.out.1).mono ?_
            rintro e w' ⟨rfl, rfl⟩
            rw [HTT.out]
            go_wp2_with fail
            refine hK.out _ _ HCL.out (fun hHeld => ?_)
            clear hK K
            try simp only [Act.put, List.setIfInBounds_toArray, List.set_cons_zero, List.set_cons_succ]
            refine wpAnyH_take (i := 20) (oi := { dst := some 78, op := Op.binOp BinOp.neq 3 (Operand.tmp 75) (Operand.tmp 77) 3, type := 4, pos := "law.go:273", after := #[{ on := 17, ground := Ground.data }, { on := 19, ground := Ground.data }, { on := 15, ground := Ground.guard }], guard := some (15, false) }) (v := .bool false) rfl (by kernel_rfl) (by kernel_rfl) (by kernel_rfl) (fun _ _ _ h => h) (Or.inl ⟨by rfl, ?hy20_14⟩) (by assumption) ?rest20_14
            case hy20_14 => (intro w hSw; (try dsimp only at hSw); go_split_ands; go_simp; try with_reducible rfl)
            try simp only [Act.put, List.setIfInBounds_toArray, List.set_cons_zero, List.set_cons_succ]
            refine wpAnyH_take (i := 21) (oi := { dst := some 79, op := Op.pick (Operand.tmp 73) (Operand.const (Value.bool true)) (Operand.tmp 78), type := 4, pos := "law.go:273", after := #[{ on := 15, ground := Ground.data }, { on := 20, ground := Ground.data }], guard := none }) (v := .bool false) rfl (by kernel_rfl) (by kernel_rfl) (by kernel_rfl) (fun _ _ _ h => h) (Or.inl ⟨by rfl, ?hy21_15⟩) (by assumption) ?rest21_15
            case hy21_15 => (intro w hSw; (try dsimp only at hSw); go_split_ands; go_simp; try with_reducible rfl)
            try simp only [Act.put, List.setIfInBounds_toArray, List.set_cons_zero, List.set_cons_succ]
            refine wpAnyH_done (by kernel_rfl) ?_ _
            go_wp2_with fail
            go_roundw
            case rel => exact ⟨j + 1, _, _, by go_num, by omega, Lib.hid ⟨_, HHH.out, HA.out, HB.out, HSP.out⟩⟩
            case measure => simp only [intOf]; omega
          · obtain rfl : j = n3 := by omega
            go_wp2_with fail
            refine (awake_any _).mono ?_
            rintro e wz ⟨rfl, hbz⟩
            go_wp2_with fail
            go_ret
            exact ⟨rfl, (HA.out.2.2).trans (hbz.mono (HA.out.2.2).size)⟩
end Go.Proofs.Ytnmifaohmafobaa.storeWipedDone
namespace Go.Proofs.Ytnmifaohmafobaa.storeWipedDone
open Go.ChangeShapes Go.WideShapes Go.ChangeAt Go.RowKit Mem st Go.Shelf SM
set_option linter.unusedVariables false
theorem own : ownKnob Try.prog.godebug = none := by kernel_rfl
theorem laidOut : laidOutB Try.prog = true := by kernel_rfl
set_option maxRecDepth 100000 in
theorem lifted (os : Os) (started : os.Started) (H : Type) (enc : TypeId × Value → H) :
    ReturnsInHanded {} Try.checked os 9 .any (Rows.storeWipedSpec.pre6 enc Try.prog Try.f9 Rows.storeWipedRow.domain false) (Rows.storeWipedSpec.post enc Try.prog Try.f9 false true false false) := by
  refine returnsInHanded_of_change (C := Try.checked) own started (by kernel_rfl) Try.func9
    (ChangeSpec.witness6 (enc := enc) (C := Try.checked) false ⟨#[], #[.int .i64 0, .int .i64 0, .slice none 0 0, .slice none 0 0], []⟩ 8 (by kernel_rfl) (by kernel_rfl) (by kernel_rfl) (by kernel_rfl)) ?_
  intro W base args ds gs before hval0 hW hcnd _
  have hval : ∀ (j : Nat) t v, Try.f9.params[j]? = some t → args[j]? = some v → Value.okWide Try.prog W .any base t v := hval0
  have hW' := hW
  obtain ⟨p, q, hA0, hV, rfl, hfz, hnd⟩ := hW
  have hA : DataW.TrodAll enc Try.prog W 0 (fun _ => true) true Try.f9.params.toList args.toList ds p := hA0
  rw [Try.params9] at hA hval
  obtain ⟨v0, vs0, d0, ds0, p0, q0, hargs, rfl, rfl, h0, r0⟩ := trodAll_cons hA
  obtain ⟨v1, vs1, d1, ds1, p1, q1, rfl, rfl, rfl, h1, r1⟩ := trodAll_cons r0
  obtain ⟨v2, vs2, d2, ds2, p2, q2, rfl, rfl, rfl, h2, r2⟩ := trodAll_cons r1
  obtain ⟨v3, vs3, d3, ds3, p3, q3, rfl, rfl, rfl, h3, r3⟩ := trodAll_cons r2
  obtain ⟨rfl, rfl, rfl⟩ := trodAll_nil r3
  obtain rfl : args = #[v0, v1, v2, v3] := by cases args; simp_all
  obtain ⟨rfl, rfl⟩ := trodVars_none hV
  obtain ⟨a0, rfl, rfl, rfl, w0⟩ := open_int Try.underlying3 (hval 0 3 v0 rfl rfl) h0
  obtain ⟨a1, rfl, rfl, rfl, w1⟩ := open_int Try.underlying3 (hval 1 3 v1 rfl rfl) h1
  obtain ⟨a2, n2, c2, rfl⟩ := okWide_slice Try.underlying22 (hval 2 22 v2 rfl rfl)
  have k2 := h2
  have lt2 : ∀ x ∈ p2, x.block < W.heap.size := by obtain ⟨m, hm⟩ := k2; exact DataW.trod_lt m _ _ _ hm
  obtain ⟨l2, w2, m2, b2⟩ : ∃ l : List DoV, Dos W W.heap.size a2 n2 l ∧ n2 ≤ c2 ∧ n2 ≤ 9223372036854775807 := by
    obtain ⟨fuel, hf⟩ := h2
    exact open_dos hf
  obtain ⟨a3, n3, c3, rfl⟩ := okWide_slice Try.underlying22 (hval 3 22 v3 rfl rfl)
  have k3 := h3
  have lt3 : ∀ x ∈ p3, x.block < W.heap.size := by obtain ⟨m, hm⟩ := k3; exact DataW.trod_lt m _ _ _ hm
  obtain ⟨l3, w3, m3, b3⟩ : ∃ l : List DoV, Dos W W.heap.size a3 n3 l ∧ n3 ≤ c3 ∧ n3 ≤ 9223372036854775807 := by
    obtain ⟨fuel, hf⟩ := h3
    exact open_dos hf
  clear hA0 hval0
  refine (walk a0 a1 a2 n2 c2 l2 a3 n3 c3 l3 W w0 w1 w2 m2 b2 w3 m3 b3).mono fun e W' ⟨he, bel⟩ => ?_
  subst he
  exact ⟨_, rfl, _, _, _, [], _, [], hW', trodAll_mk1 (shut_bool Try.underlying4 _), (trodAll_cons_mk (shut_int Try.underlying3 w0) (trodAll_cons_mk (shut_int Try.underlying3 w1) (trodAll_cons_mk (Below.trod laidOut (by kernel_rfl) (of_decide_eq_true (by kernel_rfl)) k2 bel lt2) (trodAll_cons_mk (Below.trod laidOut (by kernel_rfl) (of_decide_eq_true (by kernel_rfl)) k3 bel lt3) trodAll_mk0)))), rfl, bel.frame _, fun h => by cases h⟩

theorem over : Rows.storeWipedRow.holds Try.pinned (OpenSpec.ofChange Rows.storeWipedSpec) :=
  OpenClaim.holds_of_wide 9 Try.f9 rfl rfl rfl rfl rfl rfl rfl ⟨rfl, rfl, rfl, rfl, rfl⟩ rfl rfl rfl rfl rfl (by kernel_rfl) Try.func9 (by kernel_rfl)
    (of_decide_eq_true (by kernel_rfl)) (by unfold Func.isWrapper; first | (rw [if_pos (by decide +kernel)]; kernel_rfl) | (rw [if_neg (by decide +kernel)]; exact ⟨rfl, rfl⟩))
    (fun os started H enc _ => lifted os started H enc)
/-- the given statement -/
theorem proved : Rows.StoreWipedSaid := over
#print axioms proved
end Go.Proofs.Ytnmifaohmafobaa.storeWipedDone
