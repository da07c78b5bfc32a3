/- PacketPuts: for every input the law answers true and leaves its arguments as they were. -/
import Derived.Test.YtcdfkcbjididgaaRows
import Derived.Test.YtcdfkcbjididgaaPkO
import Derived.ProofKit
import Derived.OpenShut
import Derived.ShutString
import Derived.ChangeOld
namespace Go.Proofs.Ytcdfkcbjididgaa.packetPutsDone
open Go.RowKit Mem SM lib sum PM pk
set_option linter.unusedVariables false
theorem data_at {w : World} {g : Nat} {p : Pk} {A A1 : Option Addr} {n c N1 C1 : Nat} (h : PkAt w g p A n c) : PkAt (w.setCell ⟨g, 10, none⟩ (.slice A1 N1 C1)) g p A1 N1 C1 :=
  ⟨(World.cell?_setCell_other _ _ _ _ (by intro e; injection e with _ e2; exact absurd e2 (by decide))).trans h.c0, (World.cell?_setCell_other _ _ _ _ (by intro e; injection e with _ e2; exact absurd e2 (by decide))).trans h.c1, (World.cell?_setCell_other _ _ _ _ (by intro e; injection e with _ e2; exact absurd e2 (by decide))).trans h.c2, (World.cell?_setCell_other _ _ _ _ (by intro e; injection e with _ e2; exact absurd e2 (by decide))).trans h.c3, (World.cell?_setCell_other _ _ _ _ (by intro e; injection e with _ e2; exact absurd e2 (by decide))).trans h.c4, (World.cell?_setCell_other _ _ _ _ (by intro e; injection e with _ e2; exact absurd e2 (by decide))).trans h.c5, (World.cell?_setCell_other _ _ _ _ (by intro e; injection e with _ e2; exact absurd e2 (by decide))).trans h.c6, (World.cell?_setCell_other _ _ _ _ (by intro e; injection e with _ e2; exact absurd e2 (by decide))).trans h.c7, (World.cell?_setCell_other _ _ _ _ (by intro e; injection e with _ e2; exact absurd e2 (by decide))).trans h.c8, (World.cell?_setCell_other _ _ _ _ (by intro e; injection e with _ e2; exact absurd e2 (by decide))).trans h.c9, World.cell?_setCell_same _ _ _ h.c10⟩
theorem data_far {w : World} {g k : Nat} {p : Pk} {A : Option Addr} {n c : Nat} {u : Value} (h : PkAt w g p A n c) (hk : k ≠ g) : PkAt (w.setCell ⟨k, 10, none⟩ u) g p A n c :=
  ⟨(World.cell?_setCell_other _ _ _ _ (by intro e; injection e with e1 _; omega)).trans h.c0, (World.cell?_setCell_other _ _ _ _ (by intro e; injection e with e1 _; omega)).trans h.c1, (World.cell?_setCell_other _ _ _ _ (by intro e; injection e with e1 _; omega)).trans h.c2, (World.cell?_setCell_other _ _ _ _ (by intro e; injection e with e1 _; omega)).trans h.c3, (World.cell?_setCell_other _ _ _ _ (by intro e; injection e with e1 _; omega)).trans h.c4, (World.cell?_setCell_other _ _ _ _ (by intro e; injection e with e1 _; omega)).trans h.c5, (World.cell?_setCell_other _ _ _ _ (by intro e; injection e with e1 _; omega)).trans h.c6, (World.cell?_setCell_other _ _ _ _ (by intro e; injection e with e1 _; omega)).trans h.c7, (World.cell?_setCell_other _ _ _ _ (by intro e; injection e with e1 _; omega)).trans h.c8, (World.cell?_setCell_other _ _ _ _ (by intro e; injection e with e1 _; omega)).trans h.c9, (World.cell?_setCell_other _ _ _ _ (by intro e; injection e with e1 _; omega)).trans h.c10⟩
set_option maxRecDepth 20000 in
set_option maxHeartbeats 16000000 in
theorem walk (p : Pk) (A : Option Addr) (n c : Nat) (w : World) (h : Rd w w.heap.size A n (bv p.data)) (hc : n ≤ c) (hn : n ≤ 9223372036854775807) (hu : u32P p) :
    Calls Try.prog 3 #[pkV p A n c] w fun e w' => e = .returned (.bool true) ∧ Below w.heap.size w w' := by
  have hlen : n = p.data.length := by rw [← bv_len, h.len]
  obtain ⟨W, hW⟩ : ∃ W, W = w.alloc (pkO p A n c) := ⟨_, rfl⟩
  obtain ⟨g, hg⟩ : ∃ g, g = w.heap.size := ⟨_, rfl⟩
  have hP : PkAt W g p A n c := by rw [hW, hg]; exact PkAt.new _ _ _ _ _
  have hs : W.heap.size = g + 1 := by rw [hW, hg]; simp
  have hb0 : Below w.heap.size w W := by rw [hW]; exact (Below.refl _ _).alloc (Nat.le_refl _) _
  have HP := Lib.hid hP
  have HW := Lib.hid hW
  have HG := Lib.hid hg
  have HS := Lib.hid hs
  have HL := Lib.hid hlen
  have HB := Lib.hid hb0
  obtain ⟨c0, c1, c2, c3, c4, c5, c6, c7, c8, c9, c10⟩ := hP
  clear hW hg hs hlen
  unfold pkV
  by_cases hbig : 16384 < n
  · go_enter Try.func3, Try.ntmps3
    go_upto_region 1 with fail
    have hW2 : w.alloc (.cells #[.int .i64 p.src, .int .i64 p.dst, .int .i64 p.sport, .int .i64 p.dport, .int .u32 p.seq, .int .u32 p.ack, .int .i64 p.flags, .int .i64 p.window, .int .i64 p.probe, .int .i64 p.origin, .slice A n c] 25) = W := HW.out.symm
    rw [hW2, ← HG.out]
    clear hW2
    go_wp2_with fail
    refine (awake_any _).mono ?_
    rintro e w1 ⟨rfl, hb1⟩
    go_wp2
    go_ret
    exact ⟨rfl, hb0.trans (hb1.mono hb0.size)⟩
  · obtain ⟨X, hX⟩ : ∃ X, X = W.alloc (pkO p A n c) := ⟨_, rfl⟩
    have hbX : Below W.heap.size W X := by rw [hX]; exact (Below.refl _ _).alloc (Nat.le_refl _) _
    have hPX : PkAt X (g + 1) p A n c := by
      have := PkAt.new W p A n c
      rw [HS.out] at this
      rw [hX]
      exact this
    have hsX : X.heap.size = g + 2 := by rw [hX]; simp [HS.out]
    have hfX : X.frozen? ⟨g + 1, 10, none⟩ = false := by rw [hX, ← HS.out]; unfold pkO; simp
    have hb0X : Below w.heap.size w X := hb0.trans (hbX.mono hb0.size)
    have hrX := h.below hb0X (Nat.le_refl _)
    have hcl := clone_any A n c _ p.data X hrX hb0X.size (by omega)
    unfold Made at hcl
    have HCL := Lib.hid hcl
    have HX := Lib.hid hX
    have HSX := Lib.hid hsX
    have HPX := Lib.hid hPX
    clear hX hsX hcl
    go_enter Try.func3, Try.ntmps3
    go_upto_region 1 with fail
    have hW2 : w.alloc (.cells #[.int .i64 p.src, .int .i64 p.dst, .int .i64 p.sport, .int .i64 p.dport, .int .u32 p.seq, .int .u32 p.ack, .int .i64 p.flags, .int .i64 p.window, .int .i64 p.probe, .int .i64 p.origin, .slice A n c] 25) = W := HW.out.symm
    rw [hW2, ← HG.out]
    clear hW2
    go_upto_region 4 with fail
    have hX2 : W.alloc (.cells #[.int .i64 p.src, .int .i64 p.dst, .int .i64 p.sport, .int .i64 p.dport, .int .u32 p.seq, .int .u32 p.ack, .int .i64 p.flags, .int .i64 p.window, .int .i64 p.probe, .int .i64 p.origin, .slice A n c] 25) = X := HX.out.symm
    rw [hX2, HS.out]
    clear hX2 c0 c1 c2 c3 c4 c5 c6 c7 c8 c9 c10
    have c10 := (HP.out.below hbX (by rw [HS.out]; omega)).c10
    go_wp2_with fail
    refine HCL.out.mono ?_
    rintro e w1 ⟨A1, N1, C1, rfl, ho1, hb1⟩
    have hP1 := (HP.out.below hbX (by rw [HS.out]; omega)).below hb1 (by rw [HSX.out]; omega)
    have hQ1 := HPX.out.below hb1 (by rw [HSX.out]; omega)
    have hf1 : w1.frozen? ⟨g + 1, 10, none⟩ = false := (hb1.frozen (p := ⟨g + 1, 10, none⟩) (by rw [HSX.out]; simp)).trans hfX
    have hq1 := hQ1.c10
    have hb01 : Below w.heap.size w w1 := hb0X.trans (hb1.mono hb0X.size)
    clear c10
    go_upto_region 5 with fail
    obtain ⟨V, hV⟩ : ∃ V, V = w1.setCell ⟨g + 1, 10, none⟩ (.slice A1 N1 C1) := ⟨_, rfl⟩
    rw [← hV]
    have hPV : PkAt V g p A n c := by rw [hV]; exact data_far hP1 (by omega)
    have hQV : PkAt V (g + 1) p A1 N1 C1 := by rw [hV]; exact data_at hQ1
    have hbV : Below w.heap.size w V := by rw [hV]; exact hb01.setCell (by have := HG.out; simp; omega) _
    have hsV : V.heap.size = w1.heap.size := by rw [hV]; simp [World.setCell]
    have ho1V : Ow V X.heap.size 5 A1 N1 C1 (bv p.data) := by
      rw [hV]
      refine Ow.setCell ho1 ?_
      cases hA : blk A1 with
      | none => exact Or.inl rfl
      | some k =>
        refine Or.inr fun e => ?_
        have h1 := (ho1.blk_lt k hA).1
        have h2 := HSX.out
        injection e with e
        omega
    have hgV : g + 1 < V.heap.size := by have h1 := hb1.size; have h2 := HSX.out; omega
    have HPV := Lib.hid hPV
    have HQV := Lib.hid hQV
    clear hV hq1 hf1 hP1 hQ1
    have hN1 : n = N1 := by
      have h1 := ho1V.len
      have h2 := HL.out
      rw [bv_len] at h1
      omega
    subst hN1
    have hD : ∀ w', Below V.heap.size V w' → w'.cell? ⟨g, 0, none⟩ = some (.int .i64 p.src) ∧ w'.cell? ⟨g, 1, none⟩ = some (.int .i64 p.dst) ∧ w'.cell? ⟨g, 2, none⟩ = some (.int .i64 p.sport) ∧ w'.cell? ⟨g, 3, none⟩ = some (.int .i64 p.dport) ∧ w'.cell? ⟨g, 4, none⟩ = some (.int .u32 p.seq) ∧ w'.cell? ⟨g, 5, none⟩ = some (.int .u32 p.ack) ∧ w'.cell? ⟨g, 6, none⟩ = some (.int .i64 p.flags) ∧ w'.cell? ⟨g, 7, none⟩ = some (.int .i64 p.window) ∧ w'.cell? ⟨g, 8, none⟩ = some (.int .i64 p.probe) ∧ w'.cell? ⟨g, 9, none⟩ = some (.int .i64 p.origin) ∧ w'.cell? ⟨g, 10, none⟩ = some (.slice A n c) ∧ w'.cell? ⟨g + 1, 0, none⟩ = some (.int .i64 p.src) ∧ w'.cell? ⟨g + 1, 1, none⟩ = some (.int .i64 p.dst) ∧ w'.cell? ⟨g + 1, 2, none⟩ = some (.int .i64 p.sport) ∧ w'.cell? ⟨g + 1, 3, none⟩ = some (.int .i64 p.dport) ∧ w'.cell? ⟨g + 1, 4, none⟩ = some (.int .u32 p.seq) ∧ w'.cell? ⟨g + 1, 5, none⟩ = some (.int .u32 p.ack) ∧ w'.cell? ⟨g + 1, 6, none⟩ = some (.int .i64 p.flags) ∧ w'.cell? ⟨g + 1, 7, none⟩ = some (.int .i64 p.window) ∧ w'.cell? ⟨g + 1, 8, none⟩ = some (.int .i64 p.probe) ∧ w'.cell? ⟨g + 1, 9, none⟩ = some (.int .i64 p.origin) ∧ w'.cell? ⟨g + 1, 10, none⟩ = some (.slice A1 n C1) ∧ Below V.heap.size V w' := fun w' hb => ⟨(HPV.out.below hb (by omega)).c0, (HPV.out.below hb (by omega)).c1, (HPV.out.below hb (by omega)).c2, (HPV.out.below hb (by omega)).c3, (HPV.out.below hb (by omega)).c4, (HPV.out.below hb (by omega)).c5, (HPV.out.below hb (by omega)).c6, (HPV.out.below hb (by omega)).c7, (HPV.out.below hb (by omega)).c8, (HPV.out.below hb (by omega)).c9, (HPV.out.below hb (by omega)).c10, (HQV.out.below hb hgV).c0, (HQV.out.below hb hgV).c1, (HQV.out.below hb hgV).c2, (HQV.out.below hb hgV).c3, (HQV.out.below hb hgV).c4, (HQV.out.below hb hgV).c5, (HQV.out.below hb hgV).c6, (HQV.out.below hb hgV).c7, (HQV.out.below hb hgV).c8, (HQV.out.below hb hgV).c9, (HQV.out.below hb hgV).c10, hb⟩
    have HD := Lib.hid hD
    obtain ⟨c0, c1, c2, c3, c4, c5, c6, c7, c8, c9, c10, d0, d1, d2, d3, d4, d5, d6, d7, d8, d9, d10, _⟩ := hD V (Below.refl _ _)
    have hput := put_any p A1 n C1 _ V ho1V.rd (Nat.le_refl _) ho1V.cap.1 hn hu
    have hrput := fun w1 (hb : Below V.heap.size V w1) => rput_any p A n c _ w1 ((h.below hbV (Nat.le_refl _)).below hb hbV.size) (Nat.le_trans hbV.size hb.size) hc hn hu
    unfold PutPost at hput hrput
    obtain ⟨ec, hec⟩ : ∃ ec, ec = chk p := ⟨_, rfl⟩
    have hck := fun w1 => check_any p A1 n C1 w1 HL.out hn
    have hrck := fun w1 => rcheck_any p A n c w1 HL.out hn
    rw [← hec] at hput hrput hck hrck
    have HPUT := Lib.hid hput
    have HRPUT := Lib.hid hrput
    have HCK := Lib.hid hck
    have HRCK := Lib.hid hrck
    clear hput hrput hck hrck hec hD
    go_wp2_with fail
    refine HPUT.out.mono ?_
    rintro e w2 ⟨A2, N2, C2, rfl, ho2, hb2⟩
    clear c0 c1 c2 c3 c4 c5 c6 c7 c8 c9 c10 d0 d1 d2 d3 d4 d5 d6 d7 d8 d9 d10
    obtain ⟨c0, c1, c2, c3, c4, c5, c6, c7, c8, c9, c10, d0, d1, d2, d3, d4, d5, d6, d7, d8, d9, d10, _⟩ := HD.out w2 hb2
    go_wp2_with fail
    refine (HRPUT.out w2 hb2).mono ?_
    rintro e w3 ⟨A3, N3, C3, rfl, ho3, hb3⟩
    have hb13 : Below V.heap.size V w3 := hb2.trans (hb3.mono hb2.size)
    have heq := equal_any A2 A3 N2 C2 N3 C3 w3.heap.size (putR p) (putR p) w3.drew (ho2.below hb3 (Nat.le_refl _)).rd.drew ho3.rd.drew
    rw [decide_eq_true rfl] at heq
    have hsm := fun w1 (hb : Below V.heap.size V w1) => same_any p p A1 A n C1 n c w1.heap.size w1.heap.size w1 ((ho1V.below hb (Nat.le_refl _)).rd) (((h.below hbV (Nat.le_refl _)).below hb hbV.size).more (Nat.le_trans hbV.size hb.size)) (Nat.le_refl _) (Nat.le_refl _)
    rw [decide_eq_true rfl] at hsm
    have HEQ := Lib.hid heq
    have HSM := Lib.hid hsm
    have k0 : Below V.heap.size V w3.drew := below_drew hb13
    clear heq hsm c0 c1 c2 c3 c4 c5 c6 c7 c8 c9 c10 d0 d1 d2 d3 d4 d5 d6 d7 d8 d9 d10
    go_wp2_with fail
    go_region_held3 (fun w' => w'.cell? ⟨g, 0, none⟩ = some (.int .i64 p.src) ∧ w'.cell? ⟨g, 1, none⟩ = some (.int .i64 p.dst) ∧ w'.cell? ⟨g, 2, none⟩ = some (.int .i64 p.sport) ∧ w'.cell? ⟨g, 3, none⟩ = some (.int .i64 p.dport) ∧ w'.cell? ⟨g, 4, none⟩ = some (.int .u32 p.seq) ∧ w'.cell? ⟨g, 5, none⟩ = some (.int .u32 p.ack) ∧ w'.cell? ⟨g, 6, none⟩ = some (.int .i64 p.flags) ∧ w'.cell? ⟨g, 7, none⟩ = some (.int .i64 p.window) ∧ w'.cell? ⟨g, 8, none⟩ = some (.int .i64 p.probe) ∧ w'.cell? ⟨g, 9, none⟩ = some (.int .i64 p.origin) ∧ w'.cell? ⟨g, 10, none⟩ = some (.slice A n c) ∧ w'.cell? ⟨g + 1, 0, none⟩ = some (.int .i64 p.src) ∧ w'.cell? ⟨g + 1, 1, none⟩ = some (.int .i64 p.dst) ∧ w'.cell? ⟨g + 1, 2, none⟩ = some (.int .i64 p.sport) ∧ w'.cell? ⟨g + 1, 3, none⟩ = some (.int .i64 p.dport) ∧ w'.cell? ⟨g + 1, 4, none⟩ = some (.int .u32 p.seq) ∧ w'.cell? ⟨g + 1, 5, none⟩ = some (.int .u32 p.ack) ∧ w'.cell? ⟨g + 1, 6, none⟩ = some (.int .i64 p.flags) ∧ w'.cell? ⟨g + 1, 7, none⟩ = some (.int .i64 p.window) ∧ w'.cell? ⟨g + 1, 8, none⟩ = some (.int .i64 p.probe) ∧ w'.cell? ⟨g + 1, 9, none⟩ = some (.int .i64 p.origin) ∧ w'.cell? ⟨g + 1, 10, none⟩ = some (.slice A1 n C1) ∧ Below V.heap.size V w')
      (first | exact HD.out _ k0 | exact HD.out _ k7 | exact HD.out _ k8 | exact HD.out _ k9 | exact HD.out _ k10 | fail)
      (first
        | (go_at_call 17; refine HEQ.out.mono ?_; rintro e w' ⟨rfl, rfl⟩)
        | (go_at_call 18; refine (HCK.out _).mono ?_; rintro e w7 ⟨rfl, hb7⟩; have k7 := k0.trans (hb7.mono k0.size))
        | (go_at_call 19; refine (HRCK.out _).mono ?_; rintro e w8 ⟨rfl, hb8⟩; have k8 := k7.trans (hb8.mono k7.size))
        | (go_at_call 20; refine (HSM.out _ k8).mono ?_; rintro e w9 ⟨rfl, hb9⟩; have k9 := k8.trans (hb9.mono k8.size))
        | (go_at_call 13; refine (awake_any _).mono ?_; rintro e w10 ⟨rfl, hb10⟩; have k10 := k9.trans (hb10.mono k9.size))
        | fail)
    all_goals
      go_wp2_with fail
      go_ret
      exact ⟨rfl, hbV.trans (k10.mono hbV.size)⟩
end Go.Proofs.Ytcdfkcbjididgaa.packetPutsDone
namespace Go.Proofs.Ytcdfkcbjididgaa.packetPutsDone
open Go.ChangeShapes Go.WideShapes Go.ChangeAt Go.RowKit Mem SM lib sum PM pk
set_option linter.unusedVariables false
theorem own : ownKnob Try.prog.godebug = none := by kernel_rfl
theorem laidOut : laidOutB Try.prog = true := by kernel_rfl
set_option maxRecDepth 100000 in
theorem lifted (os : Os) (started : os.Started) (H : Type) (enc : TypeId × Value → H) :
    ReturnsInHanded {} Try.checked os 3 .any (Rows.packetPutsSpec.pre6 enc Try.prog Try.f3 Rows.packetPutsRow.domain false) (Rows.packetPutsSpec.post enc Try.prog Try.f3 false true false false) := by
  refine returnsInHanded_of_change (C := Try.checked) own started (by kernel_rfl) Try.func3
    (ChangeSpec.witness6 (enc := enc) (C := Try.checked) false ⟨#[], #[.agg #[.int .i64 0, .int .i64 0, .int .i64 0, .int .i64 0, .int .u32 0, .int .u32 0, .int .i64 0, .int .i64 0, .int .i64 0, .int .i64 0, .slice none 0 0]], []⟩ 8 (by kernel_rfl) (by kernel_rfl) (by kernel_rfl) (by kernel_rfl)) ?_
  intro W base args ds gs before hval0 hW hcnd _
  have hval : ∀ (j : Nat) t v, Try.f3.params[j]? = some t → args[j]? = some v → Value.okWide Try.prog W .any base t v := hval0
  have hW' := hW
  obtain ⟨p, q, hA0, hV, rfl, hfz, hnd⟩ := hW
  have hA : DataW.TrodAll enc Try.prog W 0 (fun _ => true) true Try.f3.params.toList args.toList ds p := hA0
  rw [Try.params3] at hA hval
  obtain ⟨v0, vs0, d0, ds0, p0, q0, hargs, rfl, rfl, h0, r0⟩ := trodAll_cons hA
  obtain ⟨rfl, rfl, rfl⟩ := trodAll_nil r0
  obtain rfl : args = #[v0] := by cases args; simp_all
  obtain ⟨rfl, rfl⟩ := trodVars_none hV
  have k0 := h0
  have lt0 : ∀ x ∈ p0, x.block < W.heap.size := by obtain ⟨m, hm⟩ := k0; exact DataW.trod_lt m _ _ _ hm
  obtain ⟨P0, A0, n0, c0, rfl, w0, m0, b0, u0⟩ := open_pk (hval 0 25 v0 rfl rfl) h0
  clear hA0 hval0
  refine (walk P0 A0 n0 c0 W w0 m0 b0 u0).mono fun e W' ⟨he, bel⟩ => ?_
  subst he
  exact ⟨_, rfl, _, _, _, [], _, [], hW', trodAll_mk1 (shut_bool Try.underlying4 _), (trodAll_cons_mk (Below.trod laidOut (by kernel_rfl) (of_decide_eq_true (by kernel_rfl)) k0 bel lt0) trodAll_mk0), rfl, bel.frame _, fun h => by cases h⟩

theorem over : Rows.packetPutsRow.holds Try.pinned (OpenSpec.ofChange Rows.packetPutsSpec) :=
  OpenClaim.holds_of_wide 3 Try.f3 rfl rfl rfl rfl rfl rfl rfl ⟨rfl, rfl, rfl, rfl, rfl⟩ rfl rfl rfl rfl rfl (by kernel_rfl) Try.func3 (by kernel_rfl)
    (of_decide_eq_true (by kernel_rfl)) (by unfold Func.isWrapper; first | (rw [if_pos (by decide +kernel)]; kernel_rfl) | (rw [if_neg (by decide +kernel)]; exact ⟨rfl, rfl⟩))
    (fun os started H enc _ => lifted os started H enc)
/-- the given statement -/
theorem proved : Rows.PacketPutsSaid := over
#print axioms proved
end Go.Proofs.Ytcdfkcbjididgaa.packetPutsDone
