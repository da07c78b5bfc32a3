/- DigestPieces: for every input the law answers true and leaves its arguments as they were; the table that the program lays is tied to its text. -/
import Derived.Test.YthfkldcfidehdaaDoorDgM
namespace Go.Proofs.YthfkldcfidehdaaDoor.digestPiecesDone
open Go.RowKit Mem DM dg
theorem both {base b N4 c4 : Nat} {l : List UInt8} {w5 : World} {A4 : Option Addr} {D : Array Value} (hH : HashAt w5 b l) (hT : Tab w5) (hl : l.length ≤ 549755813888) (ho : Ow w5 base 5 A4 N4 c4 (bv l)) (hD : (bv (digest l)).toArray = D) :
    (∀ w', Below w5.heap.size w5 w' → Calls Tryd.prog 18 #[.pointer (some ⟨b, 0, none⟩)] w' fun e w'' => e = .returned (.agg D) ∧ Below w5.heap.size w5 w'') ∧
    (∀ w', Below w5.heap.size w5 w' → Calls Tryd.prog 11 #[.slice (some ⟨w'.heap.size, 0, none⟩) 1 1] (w'.alloc (.cells #[.slice A4 N4 c4] 22)) fun e w'' => e = .returned (.agg D) ∧ Below w5.heap.size w5 w'') := by
  subst hD
  refine ⟨fun w' hb => (sum_any b l w' (hH.below hb) (hT.below hb) hl).mono fun e w'' ⟨h1, h2⟩ => ⟨h1, hb.trans (h2.mono hb.size)⟩, fun w' hb => ?_⟩
  have h3 : Below w5.heap.size w5 (w'.alloc (.cells #[.slice A4 N4 c4] 22)) := hb.trans ((Below.refl _ _).alloc hb.size _)
  have hpp := Parts.one (w := w') (B := w'.heap.size) ((Mem.Ow.below ho hb (Nat.le_refl _)).rd) ho.cap.1 (Nat.le_refl _) 22
  have hfl : [l].flatten = l := by simp
  have hof := of_any (some ⟨w'.heap.size, 0, none⟩) 1 1 (w'.heap.size + 1) [l] _ (hT.below h3) hpp (by simp) (by omega) (by rw [tot_flat, hfl]; exact hl)
  rw [hfl] at hof
  exact hof.mono fun e w'' ⟨h1, h2⟩ => ⟨h1, h3.trans (h2.mono h3.size)⟩
set_option maxRecDepth 100000 in
set_option maxHeartbeats 2000000 in
theorem walk (A : Option Addr) (n c : Nat) (ls : List (List UInt8)) (w : World) (hT : Tab w) (hp : Parts w w.heap.size A n ls) (_ : n ≤ c) (hn : n ≤ 9223372036854775807) (hx : ∀ l ∈ ls, l.length ≤ 9223372036854775807) :
    Calls Tryd.prog 5 #[.slice A n c] w fun e w' => e = .returned (.bool true) ∧ Below w.heap.size w w' := by
  have Hl := Lib.hid hp.len
  have HX := Lib.hid hx
  have HT := Lib.hid hT
  have HP := Lib.hid hp
  clear hT hp hx
  go_enter Tryd.func5, Tryd.ntmps5
  go_wp2_with fail
  go_loop [3, 4] (fun s i => ∃ k S : Nat, s = .int .i64 S ∧ i = .int .i64 k ∧ k ≤ n ∧ k ≤ 8193 ∧ S ≤ 16385 ∧ Hid (S ≤ 8192 → k ≤ S ∧ tot (ls.take k) ≤ S)) (fun _ i => n - (intOf i).toNat)
  case atStart => exact ⟨0, 0, rfl, rfl, by omega, by omega, by omega, (fun _ => by simp [tot] : 0 ≤ 8192 → 0 ≤ 0 ∧ tot (ls.take 0) ≤ 0)⟩
  case round =>
    obtain ⟨k, S, rfl, rfl, hk, hk2, hS, HN⟩ := hrel
    by_cases hS1 : S ≤ 8192
    · obtain ⟨hkS, htS⟩ := HN.out hS1
      by_cases hlt : k < n
      · obtain ⟨b, off, Ai, ni, ci, l, rfl, hbB, hcell, hci, hri, ⟨hkl, hel⟩, hni⟩ := HP.out.at_ hlt
        have hlen : ni ≤ 9223372036854775807 := by rw [hni, ← hel]; exact HX.out _ (List.getElem_mem hkl)
        have htk : tot (ls.take (k + 1)) ≤ S + ni := by rw [tot_take ls k hkl, hel, hni]; omega
        have HTK := Lib.hid htk
        have hlt' : (k : Int) < (n : Int) := by omega
        clear hni htk htS
        by_cases hs : ni ≤ 8192
        · have hmin : min (ni : Int) 8192 = (ni : Int) := by omega
          go_wp2_with fail
          go_round
          case rel => exact ⟨k + 1, S + (1 + ni), by go_num, by go_num, by omega, by omega, by omega, (fun _ => ⟨by omega, by have := HTK.out; omega⟩ : S + (1 + ni) ≤ 8192 → k + 1 ≤ S + (1 + ni) ∧ tot (ls.take (k + 1)) ≤ S + (1 + ni))⟩
          case measure => simp [intOf]; omega
        · have hmin : min (ni : Int) 8192 = 8192 := by omega
          go_wp2_with fail
          go_round
          case rel => exact ⟨k + 1, S + 8193, by go_num, by go_num, by omega, by omega, by omega, (fun h => by omega : S + 8193 ≤ 8192 → k + 1 ≤ S + 8193 ∧ tot (ls.take (k + 1)) ≤ S + 8193)⟩
          case measure => simp [intOf]; omega
      · obtain rfl : k = n := by omega
        rw [List.take_of_length_le (by have := Hl.out; omega)] at htS
        have HTS := Lib.hid htS
        have HNEW := Lib.hid (new_any w HT.out)
        clear htS
        go_wp2_with (go_at_call 16; refine HNEW.out.mono ?_; rintro e w1 ⟨b, rfl, hlb, hH0, hb1⟩)
        have hpos := HT.out.pos
        have HT1 := Lib.hid (HT.out.below hb1)
        have HP1 := Lib.hid (HP.out.below hb1 (Nat.le_refl _))
        have HH0 := Lib.hid hH0
        have hblt := hH0.lt
        have HB1 := Lib.hid hb1
        clear hH0 hb1 HN HNEW
        go_loopw [6, 8, 9, 10, 36] (fun v6 _ _ _ i wr => ∃ (j : Nat) (A2 : Option Addr) (N2 c2 : Nat), v6 = .slice A2 N2 c2 ∧ i = .int .i64 j ∧ j ≤ k ∧ HashAt wr b (ls.take j).flatten ∧ Ow wr w1.heap.size 5 A2 N2 c2 (bv (ls.take j).flatten) ∧ Keep1 w1 wr b) (fun _ _ _ _ i _ => k - (intOf i).toNat)
        case atStart => exact ⟨0, none, 0, 0, rfl, rfl, by omega, HH0.out, Ow.nil _ _ _, Keep1.refl _ _⟩
        case round =>
          obtain ⟨j, A2, N2, c2, rfl, rfl, hj, hH, hoA, hkp⟩ := hrel
          obtain ⟨wo, hwo⟩ : ∃ wo, wo = wr := ⟨_, rfl⟩
          subst hwo
          have hTr := HT1.out.keep hkp (by omega) (by omega)
          have hws := hkp.size
          by_cases hlt2 : j < k
          · have hpr : Parts wo w.heap.size A k ls := HP1.out.keep hkp (by omega) hlb
            obtain ⟨pb, po, Ai, ni, ci, l, rfl, hpb, hcell, hci, hrl, ⟨hkl, hle⟩, hni⟩ := hpr.at_ hlt2
            have htk := tot_take ls j hkl
            have htl := tot_le ls (j + 1)
            have htf := tot_flat (ls.take j)
            have hts := HTS.out
            have hta := tot_le ls k
            rw [List.take_of_length_le (by have := Hl.out; omega)] at hta
            rw [hle] at htk
            have hfl : (ls.take (j + 1)).flatten = (ls.take j).flatten ++ l := by rw [← List.take_append_getElem hkl, List.flatten_append, hle]; simp
            have hlen2 : (ls.take j).flatten.length + l.length ≤ 8192 := by omega
            have HFL := Lib.hid hfl
            have HHA := Lib.hid (And.intro hH (And.intro hoA (And.intro hkp (And.intro hTr hrl))))
            have HNI := Lib.hid hni
            have hni2 : ni ≤ 8192 := by omega
            have hjk : (j : Int) < (k : Int) := by omega
            clear hH hoA hkp hTr hrl hfl hle htk htl htf hts hta hni hpr
            go_wp2_with (go_at_call 10; refine (clone_any Ai ni ci w.heap.size l wo HHA.out.2.2.2.2 (by omega) (by omega)).mono ?_; rintro e w2 ⟨A3, N3, c3, rfl, ho3, hb2⟩)
            have hc3 := ho3.cap.1
            have hN3 : N3 = l.length := by have := ho3.len; rw [bv_len] at this; exact this.symm
            have hbr : b < wo.heap.size := HHA.out.1.lt
            have hw2 := write_any b (ls.take j).flatten l A3 N3 c3 w2 (HHA.out.1.below hb2) (HHA.out.2.2.2.1.below hb2) (by omega) ho3.rd hc3 (fun hp a ha => by
              subst ha
              have := (ho3.blk_lt a.block rfl).1
              omega) (by omega)
            rw [← HFL.out] at hw2
            have HW2 := Lib.hid hw2
            have HO3 := Lib.hid ho3
            have HB2 := Lib.hid hb2
            clear hw2 ho3 hb2
            go_wp2_with (go_at_call 17; refine HW2.out.mono ?_; rintro e w3 ⟨rfl, hH3, hk3⟩)
            have ho33 := ow_keep1 HO3.out hk3 (fun q hq => by have := (HO3.out.blk_lt q hq).1; omega)
            have hkr : Keep1 wo w3 b := (Keep1.of HB2.out).trans hk3
            have HS3 := Lib.hid (And.intro hH3 (And.intro ho33 hkr))
            clear hH3 hk3 ho33 hkr
            go_wp2_with fail
            go_loopw [10, 47] (fun _ i wq => ∃ (m : Nat) (X : List Value), i = .int .i64 m ∧ m ≤ N3 ∧ Ow wq wo.heap.size 5 A3 N3 c3 X ∧ Hid (∀ i, m ≤ i → X[i]? = (bv l)[i]?) ∧ Keep1 wo wq b ∧ HashAt wq b (ls.take (j + 1)).flatten) (fun _ i _ => N3 - (intOf i).toNat)
            case atStart => exact ⟨0, bv l, rfl, by omega, HS3.out.2.1, (fun _ _ => rfl), HS3.out.2.2, HS3.out.1⟩
            case round =>
              obtain ⟨m, X, rfl, hm, hoX, HX2, hkq, hHq⟩ := hrel
              by_cases hlt3 : m < N3
              · obtain ⟨g, rfl, hgB, hgl⟩ := hoX.at0 (by omega)
                obtain ⟨hs1, hs2, hs3, hs4⟩ := hoX.set m (.int .u8 (bits BinOp.xor IntKind.u8 ((l[m]'(by omega)).toNat : Int) 255)) hlt3
                rw [HX2.out m (Nat.le_refl _), bv_at l m (by omega)] at hs3
                have hmi : (m : Int) < (N3 : Int) := by omega
                obtain ⟨x, hx⟩ : ∃ x : UInt8, x = l[m]'(by omega) := ⟨_, rfl⟩
                rw [← hx] at hs1 hs3
                have HE := Lib.hid (And.intro hkq (And.intro hHq (And.intro hs1 hx)))
                clear hkq hHq hs1 hs2 hoX hx
                go_wp2_with fail
                go_roundw
                case rel =>
                  refine ⟨m + 1, _, by go_num, by omega, HE.out.2.2.1, (fun i hi => by rw [List.getElem?_set_ne (by omega)]; exact HX2.out i (by omega)), ?_, HE.out.2.1.keep (Keep1.set _ _ _ _) (by omega)⟩
                  exact HE.out.1.belowB (B := wo.heap.size) ((Below.refl _ _).setCell (by exact hgB) _) (Nat.le_refl _)
                case measure => simp [intOf]; omega
              · have hTq := HHA.out.2.2.2.1.keep hkq (by omega) (by omega)
                have hqs := hkq.size
                have hoA := ow_keep1 HHA.out.2.1 hkq (fun q hq => by have := (HHA.out.2.1.blk_lt q hq).1; omega)
                have hrlq : Rd wr w.heap.size Ai ni (bv l) := HHA.out.2.2.2.2.below (hkq.below (Below.refl _ _) (by omega) hlb) (Nat.le_refl _)
                have hNA : N2 = (ls.take j).flatten.length := by have := hoA.len; rw [bv_len] at this; exact this.symm
                have hkw := HHA.out.2.2.1.trans hkq
                have HQ := Lib.hid (And.intro hTq (And.intro hHq (And.intro hoA (And.intro hrlq hkw))))
                clear hTq hHq hoA hrlq hkq hkw HX2 hoX
                obtain ⟨D, hD⟩ : ∃ D, (bv (digest (ls.take (j + 1)).flatten)).toArray = D := ⟨_, rfl⟩
                have hneq : ∀ w : World, (binOp .neq 26 (.agg D) (.agg D)).run Tryd.prog w = .ok (.bool false) w := fun w => by
                  rw [← hD, sum_neq _ _ (digest_len _) (digest_len _) w, decide_eq_true rfl]
                  rfl
                have HD := Lib.hid hD
                clear hD
                go_wp2_with (at_builtin; refine wp_app u8ty rfl (.tmp 57) (.tmp 58) rfl rfl rfl HQ.out.2.2.1 HQ.out.2.2.2.1 (bv_one _) (by omega) (by omega) (by omega) ?_; intro A4 N4 c4 w5 ho4 hN4 hb5 _)
                rw [← bv_app, ← HFL.out] at ho4
                have hH5 := HQ.out.2.1.belowB hb5 hblt
                have hT5 := HQ.out.1.belowB hb5 (by omega) (by omega)
                have hk5 := HQ.out.2.2.2.2.belowB hb5 (Nat.le_refl _)
                have HALL := Lib.hid (both hH5 hT5 (by rw [HFL.out, List.length_append]; omega) ho4 HD.out)
                have H5 := Lib.hid (And.intro hH5 (And.intro ho4 hk5))
                have hw5 := hb5.size
                clear hH5 ho4 hk5 hT5 hb5
                have hc := Below.refl w5.heap.size w5
                go_wp2_with (first
                  | (go_at_call 18; refine (HALL.out.1 _ hc).mono ?_; clear hc; rintro e w6 ⟨rfl, hc⟩)
                  | (go_at_call 11; refine (HALL.out.2 _ hc).mono ?_; clear hc; rintro e w7 ⟨rfl, hc⟩)
                  | fail)
                go_roundw
                case rel =>
                  exact ⟨j + 1, A4, N4, c4, rfl, by go_num, by omega, H5.out.1.below hc, Mem.Ow.below H5.out.2.1 hc (Nat.le_refl _), H5.out.2.2.belowB hc (by have := H5.out.2.2.size; omega)⟩
                case measure => simp [intOf]; omega
          · obtain rfl : j = k := by omega
            rw [List.take_of_length_le (by have := Hl.out; omega)] at hH hoA
            obtain ⟨D, hD⟩ : ∃ D, (bv (digest ls.flatten)).toArray = D := ⟨_, rfl⟩
            have heq : ∀ w : World, (binOp .eql 26 (.agg D) (.agg D)).run Tryd.prog w = .ok (.bool true) w := fun w => by
              rw [← hD, sum_eql _ _ (digest_len _) (digest_len _) w, decide_eq_true rfl]
            have HALL := Lib.hid (both hH hTr (by rw [← tot_flat]; have h1 := HTS.out; omega) hoA hD)
            have hbw : Below w.heap.size w wo := HB1.out.trans (hkp.below (Below.refl _ _) HB1.out.size hlb)
            have H5 := Lib.hid (And.intro hTr hbw)
            clear hH hoA hkp hTr hD hbw
            have hc := Below.refl wo.heap.size wo
            go_wp2_with (first
              | (go_at_call 18; refine (HALL.out.1 _ hc).mono ?_; clear hc; rintro e w6 ⟨rfl, hc⟩)
              | (go_at_call 11; refine (HALL.out.2 _ hc).mono ?_; clear hc; rintro e w7 ⟨rfl, hc⟩)
              | (go_at_call 9; refine (awake_any _ (H5.out.1.below hc)).mono ?_; rintro e w9 ⟨rfl, hb9⟩)
              | fail)
            go_ret
            exact ⟨rfl, H5.out.2.trans ((hc.mono H5.out.2.size).trans (hb9.mono (Nat.le_trans H5.out.2.size hc.size)))⟩
    · have hd : ¬ (S : Int) ≤ 8192 := by omega
      have haw := awake_any w HT.out
      have HAW := Lib.hid haw
      clear haw
      by_cases hlt : k < n
      · go_wp2_with (go_at_call 9; refine HAW.out.mono ?_; rintro e w1 ⟨rfl, hb1⟩)
        go_ret
        exact ⟨rfl, hb1⟩
      · go_wp2_with (go_at_call 9; refine HAW.out.mono ?_; rintro e w1 ⟨rfl, hb1⟩)
        go_ret
        exact ⟨rfl, hb1⟩
end Go.Proofs.YthfkldcfidehdaaDoor.digestPiecesDone
namespace Go.Proofs.YthfkldcfidehdaaDoor.digestPiecesDone
open Go.ChangeShapes Go.WideShapes Go.ChangeAt Go.RowKit Mem DM dg
set_option linter.unusedVariables false
theorem contract (H : Type) (enc : TypeId × Value → H) (W : World) (base : Nat) (args : Array Value) (ds gs : List (DataW H)) (before : List MemPlace)
    (hval : ∀ (j : Nat) t v, Tryd.f5.params[j]? = some t → args[j]? = some v → Value.okWide Tryd.prog W .any base t v)
    (hW : DataW.Whole enc Tryd.prog Tryd.f5.params.toList Rows.digestPiecesSpec.vars false W args.toList ds gs before) (hL : laidMetH Tryd.prog Rows.digestPiecesRow.laid W) :
    Calls Tryd.prog 5 args W fun e W' => ∃ v, e = .returned v ∧ Rows.digestPiecesSpec.post enc Tryd.prog Tryd.f5 false true false false W args v W' := by
  have hW' := hW
  have hT : Tab W := table rfl hL
  obtain ⟨p, q, hA0, hV, rfl, hfz, hnd⟩ := hW
  have hA : DataW.TrodAll enc Tryd.prog W 0 (fun _ => true) true Tryd.f5.params.toList args.toList ds p := hA0
  rw [Tryd.params5] at hA hval
  obtain ⟨v0, vs0, d0, ds0, p0, q0, hargs, rfl, rfl, h0, r0⟩ := trodAll_cons hA
  obtain ⟨rfl, rfl, rfl⟩ := trodAll_nil r0
  obtain rfl : args = #[v0] := by cases args; simp_all
  obtain ⟨rfl, rfl⟩ := trodVars_none hV
  obtain ⟨a0, n0, c0, rfl⟩ := okWide_slice Tryd.underlying31 (hval 0 31 v0 rfl rfl)
  have k0 := h0
  have lt0 : ∀ x ∈ p0, x.block < W.heap.size := by obtain ⟨m, hm⟩ := k0; exact DataW.trod_lt m _ _ _ hm
  obtain ⟨l0, w0, x0, m0, b0⟩ : ∃ ls : List (List UInt8), Parts W W.heap.size a0 n0 ls ∧ (∀ l ∈ ls, l.length ≤ 9223372036854775807) ∧ n0 ≤ c0 ∧ n0 ≤ 9223372036854775807 := by
    obtain ⟨fuel, hf⟩ := h0
    rcases Deep.open_int_rows Tryd.underlying31 Tryd.underlying22 Tryd.underlying5 (by kernel_rfl) (by kernel_rfl) hf with ⟨hcs, _⟩ | ⟨x, l, c, A, L, C, Z, hcs, _, hl, hm, _, hrow⟩
    · simp [Value.cells] at hcs
      obtain ⟨rfl, rfl, rfl⟩ := hcs
      exact ⟨[], ⟨rfl, [], Rd.nil _ _ _, fun i hi => by simp at hi⟩, (fun _ h => by cases h), Nat.le_refl _, by omega⟩
    · simp [Value.cells] at hcs
      obtain ⟨rfl, rfl, rfl⟩ := hcs
      unfold maxLen at hm
      obtain ⟨ls, hl2, hx⟩ := parts_rows hl hrow
      exact ⟨ls, hl2, hx, hl, by omega⟩
  clear hA0 hval
  refine (walk a0 n0 c0 l0 W hT w0 m0 b0 x0).mono fun e W' ⟨he, bel⟩ => ?_
  subst he
  exact ⟨_, rfl, _, _, _, [], _, [], hW', trodAll_mk1 (shut_bool Tryd.underlying4 _), (trodAll_cons_mk (Below.trod laidOut (by kernel_rfl) (of_decide_eq_true (by kernel_rfl)) k0 bel lt0) trodAll_mk0), rfl, bel.frame _, fun h => by cases h⟩

theorem laid_met (os : Os) : laidMet Tryd.prog Rows.digestPiecesRow.laid ((laidWorld os).forCall (fun _ _ => 0) ⟨#[], #[.slice none 0 0], []⟩).memory :=
  laidMet_of_run' 8 (by kernel_rfl) (by kernel_rfl)
theorem reads (os : Os) {H : Type} (enc : TypeId × Value → H) : ∃ places, DataW.whole enc Tryd.prog ((laidWorld os).forCall (fun _ _ => 0) ⟨#[], #[.slice none 0 0], []⟩).memory Tryd.f5.params.toList Rows.digestPiecesSpec.vars false (#[.slice none 0 0] : Array Value).toList 8 = some ([.nil], [], places) :=
  ⟨[], by kernel_rfl⟩
set_option maxRecDepth 100000 in
theorem lifted (os : Os) (started : os.Started) (H : Type) (enc : TypeId × Value → H) (F : Stop.Interp) :
    ReturnsInHanded {} Tryd.checked os 5 .any ((OpenSpec.ofChange Rows.digestPiecesSpec).preRow enc Tryd.prog Tryd.f5 Rows.digestPiecesRow.domain false Rows.digestPiecesRow.laid) (((OpenSpec.ofChange Rows.digestPiecesSpec).at F).post enc Tryd.prog Tryd.f5 false true false false) := by
  obtain ⟨places, hx⟩ := reads os enc
  refine returnsInHanded_of_row (C := Tryd.checked) (s := OpenSpec.ofChange Rows.digestPiecesSpec) own started (by kernel_rfl) Tryd.func5
    (witness_row_at (enc := enc) (C := Tryd.checked) false (laidWorld os) #[.slice none 0 0] rfl (by kernel_rfl) (by kernel_rfl) (by kernel_rfl)
      (OpenSpec.preRow_of_cond 8 hx (by kernel_rfl) (fun k hk => by cases hk) (by kernel_rfl) (laid_met os))) ?_
  intro W base args ds gs before hval hW _ _ _ hL _ _
  exact contract H enc W base args ds gs before hval hW hL
theorem said : Rows.DigestPiecesSaid :=
  OpenClaim.holds_of_cond 5 Tryd.f5 rfl rfl rfl rfl rfl rfl rfl ⟨rfl, rfl, rfl, rfl, rfl⟩ rfl rfl rfl rfl rfl (by kernel_rfl) Tryd.func5 (by kernel_rfl)
    (of_decide_eq_true (by kernel_rfl)) (by unfold Func.isWrapper; first | (rw [if_pos (by decide +kernel)]; kernel_rfl) | (rw [if_neg (by decide +kernel)]; exact ⟨rfl, rfl⟩))
    (fun os started H enc _ F => by rw [OpenClaim.pre_eq_preRow]; exact lifted os started H enc F)
theorem plain (f : FuncId) (fn : Func) (hf : Tryd.pinned.checked.prog.funcNamed "flume/flumelaw08.DigestPieces" = some f) (hfn : Tryd.pinned.checked.prog.funcs[f]? = some fn) :
    false = Tryd.pinned.checked.prog.looks [] ∧ ∀ (j : Nat) t, fn.params[j]? = some t → Tryd.pinned.checked.prog.wantsStandIn t = false := by
  obtain rfl : f = 5 := Option.some.inj ((show Tryd.prog.funcNamed "flume/flumelaw08.DigestPieces" = some 5 by kernel_rfl).symm.trans hf) |>.symm
  obtain rfl : fn = Tryd.f5 := (Option.some.inj (Tryd.func5.symm.trans hfn)).symm
  refine ⟨by kernel_rfl, fun j t ht => ?_⟩
  rw [Tryd.params5] at ht
  have hm : t ∈ [31] := by simpa using Array.mem_of_getElem? ht
  have hall : ([31].all fun u => !Tryd.prog.wantsStandIn u) = true := by kernel_rfl
  exact (show Tryd.prog.wantsStandIn t = false by simpa using List.all_eq_true.1 hall t hm)
/-- the given statement -/
theorem proved : Rows.DigestPiecesCardSaid :=
  Claim7.holds_tied_plain_at .later [] _ _ _ _ said (fun _ h => by cases h) (by kernel_rfl) (fun _ h => by cases h) digestPieces_row_tie rfl ⟨rfl, rfl⟩ (by kernel_rfl) rfl plain (by kernel_rfl)
#print axioms proved
end Go.Proofs.YthfkldcfidehdaaDoor.digestPiecesDone
