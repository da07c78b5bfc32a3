/- LzRestores: for every input the law answers true and leaves its arguments as they were. -/
import Derived.Test.YtnikecjkaciplaaRows
import Derived.Test.YtnikecjkaciplaaLzK
import Derived.Test.YtnikecjkaciplaaLzP
import Derived.ProofKit
import Derived.OpenShut
import Derived.ShutString
import Derived.ChangeOld
namespace Go.Proofs.Ytnikecjkaciplaa.lzRestoresDone
open Go.RowKit Mem lz Go.Shelf OM LM oct
set_option linter.unusedVariables false
theorem xor_ff (x : UInt8) : bits .xor .u8 (x.toNat : Int) 255 = (((x ^^^ 255).toNat : Nat) : Int) := by
  rw [show (255 : Int) = ((255 : Nat) : Int) from rfl, u8_xor_nat _ _ x.toNat_lt (by decide), UInt8.toNat_xor]
  rfl
set_option maxRecDepth 50000 in
set_option maxHeartbeats 2000000 in
theorem walk (A : Option Addr) (n c : Nat) (l : List UInt8) (room : Int) (w : World) (hr : Rd w w.heap.size A n (bv l)) (hc : n ≤ c) (hn : n ≤ 9223372036854775807) (hw : (Lit.int .i64 room).wf = true) :
    Calls Try.prog 4 #[.slice A n c, .int .i64 room] w fun e w' => e = .returned (.bool true) ∧ Below w.heap.size w w' := by
  have hw2 := int_wf hw
  have hl : l.length = n := by rw [← hr.len, bv_len]
  have HR := Lib.hid hr
  clear hr hw
  by_cases hbig : (2048 : Int) < (n : Int)
  · go_enter Try.func4, Try.ntmps4
    go_wp2_with (go_at_call 11; refine (awake_any _).mono ?_; rintro e w1 ⟨rfl, hb1⟩)
    go_ret
    exact ⟨rfl, hb1⟩
  · have hcl := clone_any A n c w.heap.size l w HR.out (Nat.le_refl _) (by omega)
    have HCL := Lib.hid hcl
    have HL := Lib.hid hl
    clear hcl hl
    obtain ⟨res, hres⟩ : ∃ res, reB l room = res := ⟨_, rfl⟩
    have h3 := fun (w2 : World) (hB : w.heap.size ≤ w2.heap.size) (hr2 : Rd w2 w.heap.size A n (bv l)) => refRestore_any A n c w.heap.size l room w2 hr2 hB hc (by omega) hw2
    have h2 := fun (A1 : Option Addr) (c1 : Nat) (w1 : World) (hr1 : Rd w1 w1.heap.size A1 n (bv l)) => restore_any A1 n c1 w1.heap.size l room w1 hr1 (Nat.le_refl _) (by omega) hw2
    unfold RePost at h2
    unfold RePost2 at h3
    rw [hres] at h2 h3
    obtain ⟨er, her⟩ : ∃ er, res.2 = er := ⟨_, rfl⟩
    rw [her] at h2 h3
    have H2 := Lib.hid h2
    have H3 := Lib.hid h3
    clear h2 h3 hres her
    go_enter Try.func4, Try.ntmps4
    go_wp2_with fail
    refine (HCL.out).mono ?_
    rintro e w1 ⟨A1, N1, c1, rfl, ho1, hb1⟩
    obtain rfl : N1 = n := by have := ho1.len; rw [bv_len, HL.out] at this; exact this.symm
    go_wp2_with fail
    refine (H2.out A1 c1 w1 ho1.rd).mono ?_
    rintro e w2 ⟨A2, N2, c2, rfl, ho2, hb2⟩
    have hb12 := hb1.trans (hb2.mono hb1.size)
    have HG := Lib.hid (And.intro hb1 ho1.rd)
    have hNm : N2 ≤ 9223372036854775807 := by
      have h1 := ho2.cap
      simp only [maxLen] at h1
      omega
    have HB := Lib.hid (And.intro hb12 (And.intro (ho1.rd.below hb2 (Nat.le_refl _)) (And.intro ho2 (And.intro hb2 hb1.size))))
    clear hb1 hb2 ho1 ho2 hb12
    go_wp2_with fail
    refine (H3.out w2 HB.out.1.size (HR.out.below HB.out.1 (Nat.le_refl _))).mono ?_
    rintro e w3 ⟨A3, N3, c3, rfl, ho3, hb3⟩
    have hb13 : Below w1.heap.size w1 w3 := HB.out.2.2.2.1.trans (hb3.mono HB.out.2.2.2.1.size)
    have ho23 := HB.out.2.2.1.below hb3 (Nat.le_refl _)
    have HB3 := Lib.hid (And.intro hb13 (And.intro ho23 ho3.rd))
    clear hb3 ho3 hb13 ho23
    go_wp2_with fail
    refine (equal_any _ _ _ _ _ _ _ res.1 res.1 _ HB3.out.2.1.rd HB3.out.2.2).mono ?_
    rintro e w' ⟨rfl, rfl⟩
    rw [decide_eq_true rfl]
    have HIN : Hid (Below w1.heap.size w1 w3 ∧ ∃ xs, Ow w3 w1.heap.size 5 A2 N2 c2 (bv xs)) := Lib.hid ⟨HB3.out.1, _, HB3.out.2.1⟩
    clear HB3
    go_wp2_with fail
    go_loopw [11, 40, 41, 42, 43, 44, 45, 46, 47, 48, 49] (fun _ i _ _ _ _ _ _ _ _ _ wx => ∃ j : Nat, i = .int .i64 (j : Nat) ∧ j ≤ N2 ∧ Hid (Below w1.heap.size w1 wx ∧ ∃ xs, Ow wx w1.heap.size 5 A2 N2 c2 (bv xs))) (fun _ i _ _ _ _ _ _ _ _ _ _ => N2 - (intOf i).toNat)
    case atStart => exact ⟨0, rfl, Nat.zero_le _, HIN⟩
    case round =>
      clear HIN
      obtain ⟨j, rfl, hj, HI⟩ := hrel
      by_cases hlt2 : j < N2
      · obtain ⟨hbx, xs, hox⟩ := HI.out
        clear HI
        obtain ⟨g6, rfl, hg61, hg62⟩ := hox.at0 (by omega)
        have hxl : j < xs.length := by have h1 := hox.len; rw [bv_len] at h1; omega
        have hst := hox.set j (.int .u8 ((xs[j] ^^^ 255).toNat : Nat)) hlt2
        have hcell := hst.2.2.1
        have hfr := hst.2.2.2
        rw [bv_at xs j hxl] at hcell
        have hxor := xor_ff xs[j]
        have hbx3 := hbx.setCell (p := ⟨g6, j, none⟩) hg61 (.int .u8 ((xs[j] ^^^ 255).toNat : Nat))
        have hst1 := hst.1
        rw [← bv_set xs j (xs[j] ^^^ 255)] at hst1
        have hpk : Below w1.heap.size w1 (World.setCell _ ⟨g6, j, none⟩ (.int .u8 ((xs[j] ^^^ 255).toNat : Nat))) ∧ ∃ ys, Ow (World.setCell _ ⟨g6, j, none⟩ (.int .u8 ((xs[j] ^^^ 255).toNat : Nat))) w1.heap.size 5 (some ⟨g6, 0, none⟩) N2 c2 (bv ys) := ⟨hbx3, _, hst1⟩
        obtain ⟨yv, hyv⟩ : ∃ v : Nat, v = (xs[j] ^^^ 255).toNat := ⟨_, rfl⟩
        obtain ⟨yw, hyw⟩ : ∃ v : Nat, v = xs[j].toNat := ⟨_, rfl⟩
        rw [← hyv] at hpk hxor
        rw [← hyw] at hxor hcell
        have HPK := Lib.hid hpk
        have hj6 : (j : Int) < (N2 : Int) := by omega
        clear hst hst1 hbx3 hpk hyv hyw hox hbx
        go_wp2_with fail
        go_roundw
        case rel => exact ⟨j + 1, by go_num, by omega, HPK⟩
        case measure => simp only [intOf]; omega
      · obtain rfl : j = N2 := by omega
        have hji : ¬ (j : Int) < (j : Int) := by omega
        have hbw : Below w.heap.size w wr := HG.out.1.trans (HI.out.1.mono HG.out.1.size)
        have hE := equal_any A1 A N1 c1 N1 c w1.heap.size l l wr (HG.out.2.below HI.out.1 (Nat.le_refl _)) ((HR.out.below hbw (Nat.le_refl _)).more HG.out.1.size)
        rw [decide_eq_true rfl] at hE
        have HE := Lib.hid hE
        clear hE
        go_wp2_with (first
          | (go_at_call 14; refine HE.out.mono ?_; rintro e w' ⟨rfl, rfl⟩)
          | (go_at_call 11; refine (awake_any _).mono ?_; rintro e w11 ⟨rfl, hb11⟩)
          | fail)
        go_ret
        exact ⟨rfl, hbw.trans (hb11.mono hbw.size)⟩
end Go.Proofs.Ytnikecjkaciplaa.lzRestoresDone
namespace Go.Proofs.Ytnikecjkaciplaa.lzRestoresDone
open Go.ChangeShapes Go.WideShapes Go.ChangeAt Go.RowKit Mem lz Go.Shelf OM LM oct
set_option linter.unusedVariables false
theorem own : ownKnob Try.prog.godebug = none := by kernel_rfl
theorem laidOut : laidOutB Try.prog = true := by kernel_rfl
set_option maxRecDepth 100000 in
theorem lifted (os : Os) (started : os.Started) (H : Type) (enc : TypeId × Value → H) :
    ReturnsInHanded {} Try.checked os 4 .any (Rows.lzRestoresSpec.pre6 enc Try.prog Try.f4 Rows.lzRestoresRow.domain false) (Rows.lzRestoresSpec.post enc Try.prog Try.f4 false true false false) := by
  refine returnsInHanded_of_change (C := Try.checked) own started (by kernel_rfl) Try.func4
    (ChangeSpec.witness6 (enc := enc) (C := Try.checked) false ⟨#[], #[.slice none 0 0, .int .i64 0], []⟩ 8 (by kernel_rfl) (by kernel_rfl) (by kernel_rfl) (by kernel_rfl)) ?_
  intro W base args ds gs before hval0 hW hcnd _
  have hval : ∀ (j : Nat) t v, Try.f4.params[j]? = some t → args[j]? = some v → Value.okWide Try.prog W .any base t v := hval0
  have hW' := hW
  obtain ⟨p, q, hA0, hV, rfl, hfz, hnd⟩ := hW
  have hA : DataW.TrodAll enc Try.prog W 0 (fun _ => true) true Try.f4.params.toList args.toList ds p := hA0
  rw [Try.params4] at hA hval
  obtain ⟨v0, vs0, d0, ds0, p0, q0, hargs, rfl, rfl, h0, r0⟩ := trodAll_cons hA
  obtain ⟨v1, vs1, d1, ds1, p1, q1, rfl, rfl, rfl, h1, r1⟩ := trodAll_cons r0
  obtain ⟨rfl, rfl, rfl⟩ := trodAll_nil r1
  obtain rfl : args = #[v0, v1] := by cases args; simp_all
  obtain ⟨rfl, rfl⟩ := trodVars_none hV
  obtain ⟨a0, n0, c0, rfl⟩ := okWide_slice Try.underlying22 (hval 0 22 v0 rfl rfl)
  have k0 := h0
  have lt0 : ∀ x ∈ p0, x.block < W.heap.size := by obtain ⟨m, hm⟩ := k0; exact DataW.trod_lt m _ _ _ hm
  obtain ⟨l0, w0, m0, b0⟩ : ∃ l : List UInt8, Rd W W.heap.size a0 n0 (bv l) ∧ n0 ≤ c0 ∧ n0 ≤ 9223372036854775807 := by
    obtain ⟨fuel, hf⟩ := h0
    rcases open_ints Try.underlying22 Try.underlying5 (by kernel_rfl) hf with ⟨hcs, _⟩ | ⟨x, l, c, zs, hcs, _, hl, hm, hz, _, hcell, hwz⟩
    · simp [Value.cells] at hcs
      obtain ⟨rfl, rfl, rfl⟩ := hcs
      exact ⟨[], Rd.nil _ _ _, Nat.le_refl _, by omega⟩
    · simp [Value.cells] at hcs
      obtain ⟨rfl, rfl, rfl⟩ := hcs
      unfold maxLen at hm
      obtain ⟨l, hl2⟩ := rd_bytes hl (by simpa using hz) hcell hwz
      exact ⟨l, hl2, hl, by omega⟩
  obtain ⟨a1, rfl, rfl, rfl, w1⟩ := open_int Try.underlying3 (hval 1 3 v1 rfl rfl) h1
  clear hA0 hval0
  refine (walk a0 n0 c0 l0 a1 W w0 m0 b0 w1).mono fun e W' ⟨he, bel⟩ => ?_
  subst he
  exact ⟨_, rfl, _, _, _, [], _, [], hW', trodAll_mk1 (shut_bool Try.underlying4 _), (trodAll_cons_mk (Below.trod laidOut (by kernel_rfl) (of_decide_eq_true (by kernel_rfl)) k0 bel lt0) (trodAll_cons_mk (shut_int Try.underlying3 w1) trodAll_mk0)), rfl, bel.frame _, fun h => by cases h⟩

theorem over : Rows.lzRestoresRow.holds Try.pinned (OpenSpec.ofChange Rows.lzRestoresSpec) :=
  OpenClaim.holds_of_wide 4 Try.f4 rfl rfl rfl rfl rfl rfl rfl ⟨rfl, rfl, rfl, rfl, rfl⟩ rfl rfl rfl rfl rfl (by kernel_rfl) Try.func4 (by kernel_rfl)
    (of_decide_eq_true (by kernel_rfl)) (by unfold Func.isWrapper; first | (rw [if_pos (by decide +kernel)]; kernel_rfl) | (rw [if_neg (by decide +kernel)]; exact ⟨rfl, rfl⟩))
    (fun os started H enc _ => lifted os started H enc)
/-- the given statement -/
theorem proved : Rows.LzRestoresSaid := over
#print axioms proved
end Go.Proofs.Ytnikecjkaciplaa.lzRestoresDone
