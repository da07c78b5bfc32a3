/- LzGains: for every input the law answers true and leaves its arguments as they were. -/
import Derived.Test.YtnikecjkaciplaaRows
import Derived.Test.YtnikecjkaciplaaLzQ
import Derived.Test.YtnikecjkaciplaaLzJ
import Derived.ProofKit
import Derived.OpenShut
import Derived.ShutString
import Derived.ChangeOld
namespace Go.Proofs.Ytnikecjkaciplaa.lzGainsDone
open Go.RowKit Mem lz Go.Shelf OM LM oct
set_option linter.unusedVariables false
set_option maxRecDepth 50000 in
set_option maxHeartbeats 2000000 in
theorem walk (A : Option Addr) (n c : Nat) (l : List UInt8) (times : Int) (w : World) (hr : Rd w w.heap.size A n (bv l)) (hc : n ≤ c) (hn : n ≤ 9223372036854775807) (hw : (Lit.int .i64 times).wf = true) :
    Calls Try.prog 10 #[.slice A n c, .int .i64 times] w fun e w' => e = .returned (.bool true) ∧ Below w.heap.size w w' := by
  have hl : l.length = n := by rw [← hr.len, bv_len]
  obtain ⟨k, hk⟩ : ∃ k : Nat, (k : Int) = IntKind.u64.wrap times % 20 := ⟨(IntKind.u64.wrap times % 20).toNat, by omega⟩
  have hk19 : k ≤ 19 := by omega
  have hwk : IntKind.i64.wrap (k : Int) = (k : Int) := by rw [IntKind.wrap_i64]; omega
  have hwk2 : IntKind.u64.wrap (k : Int) = (k : Int) := by rw [IntKind.wrap_u64]; omega
  have hmd : IntKind.u64.wrap times % 20 = (k : Int) := hk.symm
  have hu0 : 0 ≤ IntKind.u64.wrap times := by rw [IntKind.wrap_u64]; omega
  have hmd2 : (IntKind.u64.wrap times).tmod 20 = (k : Int) := by rw [Int.tmod_eq_emod_of_nonneg hu0]; exact hmd
  have HR := Lib.hid hr
  clear hr hw hk
  by_cases h3 : n < 3
  · have h3i : (n : Int) < 3 := by omega
    go_enter Try.func10, Try.ntmps10
    go_wp2_with (go_at_call 11; refine (awake_any _).mono ?_; rintro e w1 ⟨rfl, hb1⟩)
    go_ret
    exact ⟨rfl, hb1⟩
  · have h3i : ¬ (n : Int) < 3 := by omega
    by_cases h60 : 60 < n
    · have h60i : (60 : Int) < (n : Int) := by omega
      go_enter Try.func10, Try.ntmps10
      go_wp2_with (go_at_call 11; refine (awake_any _).mono ?_; rintro e w1 ⟨rfl, hb1⟩)
      go_ret
      exact ⟨rfl, hb1⟩
    · have h60i : ¬ (60 : Int) < (n : Int) := by omega
      have hrep := repeat_any A n c w.heap.size l k w HR.out (Nat.le_refl _) (by omega) (by omega) hk19
      have hgain := gain l k (by omega) (by omega)
      have hrl := rep_len l k
      have hT := Nat.mul_le_mul hk19 (show n ≤ 60 by omega)
      unfold RepPost at hrep
      rw [hl] at hgain hrep hrl
      rw [hrl] at hgain
      obtain ⟨T, hTe⟩ : ∃ T, k * n = T := ⟨_, rfl⟩
      rw [hTe] at hgain hrep hT
      have HREP := Lib.hid hrep
      have HG := Lib.hid hgain
      clear hrep hgain hrl hTe
      go_enter Try.func10, Try.ntmps10
      go_wp2_with fail
      refine (HREP.out).mono ?_
      rintro e w1 ⟨A1, rfl, ho1, hb1⟩
      have hb1s := hb1.size
      go_wp2_with fail
      refine (shorten_any A1 T T w1.heap.size (rep l k) w1 ho1 (Nat.le_refl _) (Nat.le_refl _) (by omega)).mono ?_
      rintro e w2 ⟨A2, N2, c2, rfl, ho2, hb2⟩
      have hN : N2 ≤ n + 1 + 3 * (T / 66 + 2) := by
        have h1 := ho2.len
        rw [bv_len] at h1
        have := HG.out
        omega
      obtain ⟨d, hd⟩ : ∃ d, T / 66 = d := ⟨_, rfl⟩
      have hdi : (T : Int) / 66 = (d : Int) := by omega
      have hdt : Int.tdiv (T : Int) 66 = (d : Int) := by rw [Int.tdiv_eq_ediv_of_nonneg (by omega)]; exact hdi
      rw [hd] at hN
      have hNi : (N2 : Int) ≤ (n : Int) + 1 + 3 * ((d : Int) + 2) := by omega
      have hb12 := hb1.trans (hb2.mono hb1s)
      clear HG ho2 hb2 hb1
      go_wp2_with (first
        | (go_at_call 11; refine (awake_any _).mono ?_; rintro e w4 ⟨rfl, hb4⟩)
        | fail)
      go_ret
      exact ⟨rfl, hb12.trans (hb4.mono hb12.size)⟩
end Go.Proofs.Ytnikecjkaciplaa.lzGainsDone
namespace Go.Proofs.Ytnikecjkaciplaa.lzGainsDone
open Go.ChangeShapes Go.WideShapes Go.ChangeAt Go.RowKit Mem lz Go.Shelf OM LM oct
set_option linter.unusedVariables false
theorem own : ownKnob Try.prog.godebug = none := by kernel_rfl
theorem laidOut : laidOutB Try.prog = true := by kernel_rfl
set_option maxRecDepth 100000 in
theorem lifted (os : Os) (started : os.Started) (H : Type) (enc : TypeId × Value → H) :
    ReturnsInHanded {} Try.checked os 10 .any (Rows.lzGainsSpec.pre6 enc Try.prog Try.f10 Rows.lzGainsRow.domain false) (Rows.lzGainsSpec.post enc Try.prog Try.f10 false true false false) := by
  refine returnsInHanded_of_change (C := Try.checked) own started (by kernel_rfl) Try.func10
    (ChangeSpec.witness6 (enc := enc) (C := Try.checked) false ⟨#[], #[.slice none 0 0, .int .i64 0], []⟩ 8 (by kernel_rfl) (by kernel_rfl) (by kernel_rfl) (by kernel_rfl)) ?_
  intro W base args ds gs before hval0 hW hcnd _
  have hval : ∀ (j : Nat) t v, Try.f10.params[j]? = some t → args[j]? = some v → Value.okWide Try.prog W .any base t v := hval0
  have hW' := hW
  obtain ⟨p, q, hA0, hV, rfl, hfz, hnd⟩ := hW
  have hA : DataW.TrodAll enc Try.prog W 0 (fun _ => true) true Try.f10.params.toList args.toList ds p := hA0
  rw [Try.params10] at hA hval
  obtain ⟨v0, vs0, d0, ds0, p0, q0, hargs, rfl, rfl, h0, r0⟩ := trodAll_cons hA
  obtain ⟨v1, vs1, d1, ds1, p1, q1, rfl, rfl, rfl, h1, r1⟩ := trodAll_cons r0
  obtain ⟨rfl, rfl, rfl⟩ := trodAll_nil r1
  obtain rfl : args = #[v0, v1] := by cases args; simp_all
  obtain ⟨rfl, rfl⟩ := trodVars_none hV
  obtain ⟨a0, n0, c0, rfl⟩ := okWide_slice Try.underlying22 (hval 0 22 v0 rfl rfl)
  have k0 := h0
  have lt0 : ∀ x ∈ p0, x.block < W.heap.size := by obtain ⟨m, hm⟩ := k0; exact DataW.trod_lt m _ _ _ hm
  obtain ⟨l0, w0, m0, b0⟩ : ∃ l : List UInt8, Rd W W.heap.size a0 n0 (bv l) ∧ n0 ≤ c0 ∧ n0 ≤ 9223372036854775807 := by
    obtain ⟨fuel, hf⟩ := h0
    rcases open_ints Try.underlying22 Try.underlying5 (by kernel_rfl) hf with ⟨hcs, _⟩ | ⟨x, l, c, zs, hcs, _, hl, hm, hz, _, hcell, hwz⟩
    · simp [Value.cells] at hcs
      obtain ⟨rfl, rfl, rfl⟩ := hcs
      exact ⟨[], Rd.nil _ _ _, Nat.le_refl _, by omega⟩
    · simp [Value.cells] at hcs
      obtain ⟨rfl, rfl, rfl⟩ := hcs
      unfold maxLen at hm
      obtain ⟨l, hl2⟩ := rd_bytes hl (by simpa using hz) hcell hwz
      exact ⟨l, hl2, hl, by omega⟩
  obtain ⟨a1, rfl, rfl, rfl, w1⟩ := open_int Try.underlying3 (hval 1 3 v1 rfl rfl) h1
  clear hA0 hval0
  refine (walk a0 n0 c0 l0 a1 W w0 m0 b0 w1).mono fun e W' ⟨he, bel⟩ => ?_
  subst he
  exact ⟨_, rfl, _, _, _, [], _, [], hW', trodAll_mk1 (shut_bool Try.underlying4 _), (trodAll_cons_mk (Below.trod laidOut (by kernel_rfl) (of_decide_eq_true (by kernel_rfl)) k0 bel lt0) (trodAll_cons_mk (shut_int Try.underlying3 w1) trodAll_mk0)), rfl, bel.frame _, fun h => by cases h⟩

theorem over : Rows.lzGainsRow.holds Try.pinned (OpenSpec.ofChange Rows.lzGainsSpec) :=
  OpenClaim.holds_of_wide 10 Try.f10 rfl rfl rfl rfl rfl rfl rfl ⟨rfl, rfl, rfl, rfl, rfl⟩ rfl rfl rfl rfl rfl (by kernel_rfl) Try.func10 (by kernel_rfl)
    (of_decide_eq_true (by kernel_rfl)) (by unfold Func.isWrapper; first | (rw [if_pos (by decide +kernel)]; kernel_rfl) | (rw [if_neg (by decide +kernel)]; exact ⟨rfl, rfl⟩))
    (fun os started H enc _ => lifted os started H enc)
/-- the given statement -/
theorem proved : Rows.LzGainsSaid := over
#print axioms proved
end Go.Proofs.Ytnikecjkaciplaa.lzGainsDone
