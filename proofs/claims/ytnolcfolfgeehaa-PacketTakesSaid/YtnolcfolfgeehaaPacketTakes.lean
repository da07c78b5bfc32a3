/- PacketTakes: for every input the law answers true and leaves its arguments as they were. -/
import Derived.Test.YtnolcfolfgeehaaRows
import Derived.Test.YtnolcfolfgeehaaPkO
import Derived.Test.YtnolcfolfgeehaaPkQ
import Derived.ProofKit
import Derived.OpenShut
import Derived.ShutString
import Derived.ChangeOld
namespace Go.Proofs.Ytnolcfolfgeehaa.packetTakesDone
open Go.RowKit Mem SM lib sum PM pk
set_option linter.unusedVariables false
set_option maxRecDepth 50000 in
set_option maxHeartbeats 16000000 in
theorem walk (p : Pk) (A : Option Addr) (n c : Nat) (w : World) (h : Rd w w.heap.size A n (bv p.data)) (hc : n ≤ c) (hn : n ≤ 9223372036854775807) (hu : u32P p) :
    Calls Try.prog 8 #[pkV p A n c] w fun e w' => e = .returned (.bool true) ∧ Below w.heap.size w w' := by
  have hlen : n = p.data.length := by rw [← bv_len, h.len]
  obtain ⟨W, hW⟩ : ∃ W, W = w.alloc (pkO p A n c) := ⟨_, rfl⟩
  obtain ⟨g, hg⟩ : ∃ g, g = w.heap.size := ⟨_, rfl⟩
  have hP : PkAt W g p A n c := by rw [hW, hg]; exact PkAt.new _ _ _ _ _
  have hs : W.heap.size = g + 1 := by rw [hW, hg]; simp
  have hb0 : Below w.heap.size w W := by rw [hW]; exact (Below.refl _ _).alloc (Nat.le_refl _) _
  have HP := Lib.hid hP
  have HW := Lib.hid hW
  have HG := Lib.hid hg
  have HS := Lib.hid hs
  obtain ⟨c0, c1, c2, c3, c4, c5, c6, c7, c8, c9, c10⟩ := hP
  unfold pkV
  by_cases hbig : 16384 < n
  · clear hW hg hlen hs
    go_enter Try.func8, Try.ntmps8
    go_upto_region 1 with fail
    have hW2 : w.alloc (.cells #[.int .i64 p.src, .int .i64 p.dst, .int .i64 p.sport, .int .i64 p.dport, .int .u32 p.seq, .int .u32 p.ack, .int .i64 p.flags, .int .i64 p.window, .int .i64 p.probe, .int .i64 p.origin, .slice A n c] 25) = W := HW.out.symm
    rw [hW2, ← HG.out]
    clear hW2
    go_wp2_with fail
    refine (awake_any _).mono ?_
    rintro e w1 ⟨rfl, hb1⟩
    go_wp2
    go_ret
    exact ⟨rfl, hb0.trans (hb1.mono hb0.size)⟩
  · obtain ⟨Q, hQ⟩ : ∃ Q, refuseP p = Q := ⟨_, rfl⟩
    obtain ⟨B, hB⟩ : ∃ B, backP p = B := ⟨_, rfl⟩
    obtain ⟨T, hT⟩ : ∃ T, takes p = T := ⟨_, rfl⟩
    obtain ⟨fb, hfb⟩ : ∃ b, (!fl p.flags 3) = b := ⟨_, rfl⟩
    have hQd : Q.data = [] := by rw [← hQ]; unfold refuseP; split <;> rfl
    have hBd : B.data = [] := by rw [← hB]; rfl
    have hrf := fun w1 => refuse_any p A n c w1 hlen (by omega) hu
    have hrr := fun w1 => rrefuse_any p A n c w1 hlen (by omega) hu
    have htk := fun w1 => takes_any p A n c w1 hlen (by omega)
    have hrt := fun w1 => rtakes_any p A n c w1 hlen (by omega)
    have hbk := fun w1 => back_any p A n c w1
    have hrb := fun w1 => rback_any p A n c w1
    have hsB := fun w1 => same_any B B none none 0 0 0 0 0 0 w1 (by rw [hBd]; exact Rd.nil _ _ _) (by rw [hBd]; exact Rd.nil _ _ _) (Nat.zero_le _) (Nat.zero_le _)
    have hsQ := fun w1 => same_any Q Q none none 0 0 0 0 0 0 w1 (by rw [hQd]; exact Rd.nil _ _ _) (by rw [hQd]; exact Rd.nil _ _ _) (Nat.zero_le _) (Nat.zero_le _)
    rw [decide_eq_true rfl] at hsB hsQ
    unfold RefPost at hrf hrr
    rw [hQ, hfb] at hrf hrr
    rw [hT] at htk hrt
    rw [hB] at hbk hrb
    unfold pkV at hrf hrr htk hrt hbk hrb hsB hsQ
    have HRF := Lib.hid hrf
    have HRR := Lib.hid hrr
    have HTK := Lib.hid htk
    have HRT := Lib.hid hrt
    have HBK := Lib.hid hbk
    have HRB := Lib.hid hrb
    have HSB := Lib.hid hsB
    have HSQ := Lib.hid hsQ
    clear hrf hrr htk hrt hbk hrb hsB hsQ hQ hB hT hfb hQd hBd hlen hW hg hs
    go_enter Try.func8, Try.ntmps8
    go_upto_region 1 with fail
    have hW2 : w.alloc (.cells #[.int .i64 p.src, .int .i64 p.dst, .int .i64 p.sport, .int .i64 p.dport, .int .u32 p.seq, .int .u32 p.ack, .int .i64 p.flags, .int .i64 p.window, .int .i64 p.probe, .int .i64 p.origin, .slice A n c] 25) = W := HW.out.symm
    rw [hW2, ← HG.out]
    clear hW2
    go_wp2_with fail
    refine (HRF.out W).mono ?_
    rintro e w1 ⟨rfl, hb1⟩
    have hz1 := hb1.size
    have HP1 := Lib.hid (HP.out.below hb1 (by rw [HS.out]; omega))
    clear c0 c1 c2 c3 c4 c5 c6 c7 c8 c9 c10
    obtain ⟨c0, c1, c2, c3, c4, c5, c6, c7, c8, c9, c10⟩ := HP1.out
    go_upto_region 4 with fail
    obtain ⟨V, hV⟩ : ∃ V, V = w1.alloc (pkO Q none 0 0) := ⟨_, rfl⟩
    obtain ⟨g1, hg1⟩ : ∃ g1, g1 = w1.heap.size := ⟨_, rfl⟩
    have hV2 : w1.alloc (.cells #[.int .i64 Q.src, .int .i64 Q.dst, .int .i64 Q.sport, .int .i64 Q.dport, .int .u32 Q.seq, .int .u32 Q.ack, .int .i64 Q.flags, .int .i64 Q.window, .int .i64 Q.probe, .int .i64 Q.origin, .slice none 0 0] 25) = V := hV.symm
    rw [hV2, ← hg1]
    have hbV : Below w1.heap.size w1 V := by rw [hV]; exact (Below.refl _ _).alloc (Nat.le_refl _) _
    have hsV : V.heap.size = g1 + 1 := by rw [hV, hg1]; simp
    have HD1 := Lib.hid (show PkAt V g1 Q none 0 0 by rw [hV, hg1]; exact PkAt.new _ _ _ _ _)
    have hgg : g < w1.heap.size := by rw [HS.out] at hz1; omega
    have HPV := Lib.hid (HP1.out.below hbV hgg)
    have HG1 := Lib.hid hg1
    have HSV := Lib.hid hsV
    have hg1w : g1 < V.heap.size := by omega
    have hgV : w1.heap.size ≤ V.heap.size := hbV.size
    clear hg1 hsV hV2 hV c0 c1 c2 c3 c4 c5 c6 c7 c8 c9 c10
    obtain ⟨c0, c1, c2, c3, c4, c5, c6, c7, c8, c9, c10⟩ := HPV.out
    go_wp2_with fail
    refine (HRR.out V).mono ?_
    rintro e w2 ⟨rfl, hb2⟩
    have hz2 := hb2.size
    have HP2 := Lib.hid (HPV.out.below hb2 (by omega))
    have HD2 := Lib.hid (HD1.out.below hb2 (by omega))
    clear c0 c1 c2 c3 c4 c5 c6 c7 c8 c9 c10
    obtain ⟨c0, c1, c2, c3, c4, c5, c6, c7, c8, c9, c10⟩ := HP2.out
    go_upto_region 5 with fail
    obtain ⟨U, hU⟩ : ∃ U, U = w2.alloc (pkO Q none 0 0) := ⟨_, rfl⟩
    obtain ⟨g2, hg2⟩ : ∃ g2, g2 = w2.heap.size := ⟨_, rfl⟩
    have hU2 : w2.alloc (.cells #[.int .i64 Q.src, .int .i64 Q.dst, .int .i64 Q.sport, .int .i64 Q.dport, .int .u32 Q.seq, .int .u32 Q.ack, .int .i64 Q.flags, .int .i64 Q.window, .int .i64 Q.probe, .int .i64 Q.origin, .slice none 0 0] 25) = U := hU.symm
    rw [hU2, ← hg2]
    have hbU : Below w2.heap.size w2 U := by rw [hU]; exact (Below.refl _ _).alloc (Nat.le_refl _) _
    have hsU : U.heap.size = g2 + 1 := by rw [hU, hg2]; simp
    have hD3 : PkAt U g2 Q none 0 0 := by rw [hU, hg2]; exact PkAt.new _ _ _ _ _
    have hP3 := HP2.out.below hbU (by omega)
    have hD13 := HD2.out.below hbU (by omega)
    have hbwU : Below w.heap.size w U := hb0.trans ((hb1.trans ((hbV.mono hz1).trans ((hb2.mono (by omega)).trans (hbU.mono (by omega))))).mono hb0.size)
    have HD : Hid (∀ w', Below U.heap.size U w' → w'.cell? ⟨g, 0, none⟩ = some (.int .i64 p.src) ∧ w'.cell? ⟨g, 1, none⟩ = some (.int .i64 p.dst) ∧ w'.cell? ⟨g, 2, none⟩ = some (.int .i64 p.sport) ∧ w'.cell? ⟨g, 3, none⟩ = some (.int .i64 p.dport) ∧ w'.cell? ⟨g, 4, none⟩ = some (.int .u32 p.seq) ∧ w'.cell? ⟨g, 5, none⟩ = some (.int .u32 p.ack) ∧ w'.cell? ⟨g, 6, none⟩ = some (.int .i64 p.flags) ∧ w'.cell? ⟨g, 7, none⟩ = some (.int .i64 p.window) ∧ w'.cell? ⟨g, 8, none⟩ = some (.int .i64 p.probe) ∧ w'.cell? ⟨g, 9, none⟩ = some (.int .i64 p.origin) ∧ w'.cell? ⟨g, 10, none⟩ = some (.slice A n c) ∧ w'.cell? ⟨g1, 0, none⟩ = some (.int .i64 Q.src) ∧ w'.cell? ⟨g1, 1, none⟩ = some (.int .i64 Q.dst) ∧ w'.cell? ⟨g1, 2, none⟩ = some (.int .i64 Q.sport) ∧ w'.cell? ⟨g1, 3, none⟩ = some (.int .i64 Q.dport) ∧ w'.cell? ⟨g1, 4, none⟩ = some (.int .u32 Q.seq) ∧ w'.cell? ⟨g1, 5, none⟩ = some (.int .u32 Q.ack) ∧ w'.cell? ⟨g1, 6, none⟩ = some (.int .i64 Q.flags) ∧ w'.cell? ⟨g1, 7, none⟩ = some (.int .i64 Q.window) ∧ w'.cell? ⟨g1, 8, none⟩ = some (.int .i64 Q.probe) ∧ w'.cell? ⟨g1, 9, none⟩ = some (.int .i64 Q.origin) ∧ w'.cell? ⟨g1, 10, none⟩ = some (.slice none 0 0) ∧ w'.cell? ⟨g2, 0, none⟩ = some (.int .i64 Q.src) ∧ w'.cell? ⟨g2, 1, none⟩ = some (.int .i64 Q.dst) ∧ w'.cell? ⟨g2, 2, none⟩ = some (.int .i64 Q.sport) ∧ w'.cell? ⟨g2, 3, none⟩ = some (.int .i64 Q.dport) ∧ w'.cell? ⟨g2, 4, none⟩ = some (.int .u32 Q.seq) ∧ w'.cell? ⟨g2, 5, none⟩ = some (.int .u32 Q.ack) ∧ w'.cell? ⟨g2, 6, none⟩ = some (.int .i64 Q.flags) ∧ w'.cell? ⟨g2, 7, none⟩ = some (.int .i64 Q.window) ∧ w'.cell? ⟨g2, 8, none⟩ = some (.int .i64 Q.probe) ∧ w'.cell? ⟨g2, 9, none⟩ = some (.int .i64 Q.origin) ∧ w'.cell? ⟨g2, 10, none⟩ = some (.slice none 0 0) ∧ Below U.heap.size U w') := Lib.hid (fun w' hb => by
      have e1 := hP3.below hb (by omega)
      have e2 := hD13.below hb (by omega)
      have e3 := hD3.below hb (by omega)
      exact ⟨e1.c0, e1.c1, e1.c2, e1.c3, e1.c4, e1.c5, e1.c6, e1.c7, e1.c8, e1.c9, e1.c10, e2.c0, e2.c1, e2.c2, e2.c3, e2.c4, e2.c5, e2.c6, e2.c7, e2.c8, e2.c9, e2.c10, e3.c0, e3.c1, e3.c2, e3.c3, e3.c4, e3.c5, e3.c6, e3.c7, e3.c8, e3.c9, e3.c10, hb⟩)
    have k0 : Below U.heap.size U U.drew := below_drew (Below.refl _ _)
    have hbs : w.heap.size ≤ U.heap.size := hbwU.size
    clear hg2 hsU hU2 hU c0 c1 c2 c3 c4 c5 c6 c7 c8 c9 c10 hD3 hP3 hD13
    go_region_held3 (fun w' => w'.cell? ⟨g, 0, none⟩ = some (.int .i64 p.src) ∧ w'.cell? ⟨g, 1, none⟩ = some (.int .i64 p.dst) ∧ w'.cell? ⟨g, 2, none⟩ = some (.int .i64 p.sport) ∧ w'.cell? ⟨g, 3, none⟩ = some (.int .i64 p.dport) ∧ w'.cell? ⟨g, 4, none⟩ = some (.int .u32 p.seq) ∧ w'.cell? ⟨g, 5, none⟩ = some (.int .u32 p.ack) ∧ w'.cell? ⟨g, 6, none⟩ = some (.int .i64 p.flags) ∧ w'.cell? ⟨g, 7, none⟩ = some (.int .i64 p.window) ∧ w'.cell? ⟨g, 8, none⟩ = some (.int .i64 p.probe) ∧ w'.cell? ⟨g, 9, none⟩ = some (.int .i64 p.origin) ∧ w'.cell? ⟨g, 10, none⟩ = some (.slice A n c) ∧ w'.cell? ⟨g1, 0, none⟩ = some (.int .i64 Q.src) ∧ w'.cell? ⟨g1, 1, none⟩ = some (.int .i64 Q.dst) ∧ w'.cell? ⟨g1, 2, none⟩ = some (.int .i64 Q.sport) ∧ w'.cell? ⟨g1, 3, none⟩ = some (.int .i64 Q.dport) ∧ w'.cell? ⟨g1, 4, none⟩ = some (.int .u32 Q.seq) ∧ w'.cell? ⟨g1, 5, none⟩ = some (.int .u32 Q.ack) ∧ w'.cell? ⟨g1, 6, none⟩ = some (.int .i64 Q.flags) ∧ w'.cell? ⟨g1, 7, none⟩ = some (.int .i64 Q.window) ∧ w'.cell? ⟨g1, 8, none⟩ = some (.int .i64 Q.probe) ∧ w'.cell? ⟨g1, 9, none⟩ = some (.int .i64 Q.origin) ∧ w'.cell? ⟨g1, 10, none⟩ = some (.slice none 0 0) ∧ w'.cell? ⟨g2, 0, none⟩ = some (.int .i64 Q.src) ∧ w'.cell? ⟨g2, 1, none⟩ = some (.int .i64 Q.dst) ∧ w'.cell? ⟨g2, 2, none⟩ = some (.int .i64 Q.sport) ∧ w'.cell? ⟨g2, 3, none⟩ = some (.int .i64 Q.dport) ∧ w'.cell? ⟨g2, 4, none⟩ = some (.int .u32 Q.seq) ∧ w'.cell? ⟨g2, 5, none⟩ = some (.int .u32 Q.ack) ∧ w'.cell? ⟨g2, 6, none⟩ = some (.int .i64 Q.flags) ∧ w'.cell? ⟨g2, 7, none⟩ = some (.int .i64 Q.window) ∧ w'.cell? ⟨g2, 8, none⟩ = some (.int .i64 Q.probe) ∧ w'.cell? ⟨g2, 9, none⟩ = some (.int .i64 Q.origin) ∧ w'.cell? ⟨g2, 10, none⟩ = some (.slice none 0 0) ∧ Below U.heap.size U w')
      (first | exact HD.out _ k0 | exact HD.out _ k1 | exact HD.out _ k2 | exact HD.out _ k3 | exact HD.out _ k4 | exact HD.out _ k5 | exact HD.out _ k6 | exact HD.out _ k7 | fail)
      (first
        | (go_at_call 25; refine (HTK.out _).mono ?_; rintro e x1 ⟨rfl, hx1⟩; have k1 := k0.trans (hx1.mono k0.size))
        | (go_at_call 26; refine (HRT.out _).mono ?_; rintro e x2 ⟨rfl, hx2⟩; have k2 := k1.trans (hx2.mono k1.size))
        | (go_at_call 27; refine (HBK.out _).mono ?_; rintro e x3 ⟨rfl, hx3⟩; have k3 := k2.trans (hx3.mono k2.size))
        | (go_at_call 28; refine (HRB.out _).mono ?_; rintro e x4 ⟨rfl, hx4⟩; have k4 := k3.trans (hx4.mono k3.size))
        | (go_at_call 20; with_reducible refine (HSB.out _).mono ?_; rintro e x5 ⟨rfl, hx5⟩; have k5 := k4.trans (hx5.mono k4.size))
        | (go_at_call 20; with_reducible refine (HSQ.out _).mono ?_; rintro e x6 ⟨rfl, hx6⟩; have k6 := k5.trans (hx6.mono k5.size))
        | (go_at_call 13; refine (awake_any _).mono ?_; rintro e x7 ⟨rfl, hx7⟩; have k7 := k6.trans (hx7.mono k6.size))
        | fail)
    all_goals
      go_wp2_with fail
      go_ret
      exact ⟨rfl, hbwU.trans (k7.mono hbwU.size)⟩
end Go.Proofs.Ytnolcfolfgeehaa.packetTakesDone
namespace Go.Proofs.Ytnolcfolfgeehaa.packetTakesDone
open Go.ChangeShapes Go.WideShapes Go.ChangeAt Go.RowKit Mem SM lib sum PM pk
set_option linter.unusedVariables false
theorem own : ownKnob Try.prog.godebug = none := by kernel_rfl
theorem laidOut : laidOutB Try.prog = true := by kernel_rfl
set_option maxRecDepth 100000 in
theorem lifted (os : Os) (started : os.Started) (H : Type) (enc : TypeId × Value → H) :
    ReturnsInHanded {} Try.checked os 8 .any (Rows.packetTakesSpec.pre6 enc Try.prog Try.f8 Rows.packetTakesRow.domain false) (Rows.packetTakesSpec.post enc Try.prog Try.f8 false true false false) := by
  refine returnsInHanded_of_change (C := Try.checked) own started (by kernel_rfl) Try.func8
    (ChangeSpec.witness6 (enc := enc) (C := Try.checked) false ⟨#[], #[.agg #[.int .i64 0, .int .i64 0, .int .i64 0, .int .i64 0, .int .u32 0, .int .u32 0, .int .i64 0, .int .i64 0, .int .i64 0, .int .i64 0, .slice none 0 0]], []⟩ 8 (by kernel_rfl) (by kernel_rfl) (by kernel_rfl) (by kernel_rfl)) ?_
  intro W base args ds gs before hval0 hW hcnd _
  have hval : ∀ (j : Nat) t v, Try.f8.params[j]? = some t → args[j]? = some v → Value.okWide Try.prog W .any base t v := hval0
  have hW' := hW
  obtain ⟨p, q, hA0, hV, rfl, hfz, hnd⟩ := hW
  have hA : DataW.TrodAll enc Try.prog W 0 (fun _ => true) true Try.f8.params.toList args.toList ds p := hA0
  rw [Try.params8] at hA hval
  obtain ⟨v0, vs0, d0, ds0, p0, q0, hargs, rfl, rfl, h0, r0⟩ := trodAll_cons hA
  obtain ⟨rfl, rfl, rfl⟩ := trodAll_nil r0
  obtain rfl : args = #[v0] := by cases args; simp_all
  obtain ⟨rfl, rfl⟩ := trodVars_none hV
  have k0 := h0
  have lt0 : ∀ x ∈ p0, x.block < W.heap.size := by obtain ⟨m, hm⟩ := k0; exact DataW.trod_lt m _ _ _ hm
  obtain ⟨P0, A0, n0, c0, rfl, w0, m0, b0, u0⟩ := open_pk (hval 0 25 v0 rfl rfl) h0
  clear hA0 hval0
  refine (walk P0 A0 n0 c0 W w0 m0 b0 u0).mono fun e W' ⟨he, bel⟩ => ?_
  subst he
  exact ⟨_, rfl, _, _, _, [], _, [], hW', trodAll_mk1 (shut_bool Try.underlying4 _), (trodAll_cons_mk (Below.trod laidOut (by kernel_rfl) (of_decide_eq_true (by kernel_rfl)) k0 bel lt0) trodAll_mk0), rfl, bel.frame _, fun h => by cases h⟩

theorem over : Rows.packetTakesRow.holds Try.pinned (OpenSpec.ofChange Rows.packetTakesSpec) :=
  OpenClaim.holds_of_wide 8 Try.f8 rfl rfl rfl rfl rfl rfl rfl ⟨rfl, rfl, rfl, rfl, rfl⟩ rfl rfl rfl rfl rfl (by kernel_rfl) Try.func8 (by kernel_rfl)
    (of_decide_eq_true (by kernel_rfl)) (by unfold Func.isWrapper; first | (rw [if_pos (by decide +kernel)]; kernel_rfl) | (rw [if_neg (by decide +kernel)]; exact ⟨rfl, rfl⟩))
    (fun os started H enc _ => lifted os started H enc)
/-- the given statement -/
theorem proved : Rows.PacketTakesSaid := over
#print axioms proved
end Go.Proofs.Ytnolcfolfgeehaa.packetTakesDone
