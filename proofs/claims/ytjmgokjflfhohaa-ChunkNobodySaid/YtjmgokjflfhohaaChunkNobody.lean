/- ChunkNobody: for every input the law answers true and leaves its arguments as they were. -/
import Derived.Test.YtjmgokjflfhohaaRows
import Derived.Test.YtjmgokjflfhohaaChE
import Derived.ProofKit
import Derived.OpenShut
import Derived.ShutString
import Derived.ChangeOld
namespace Go.Proofs.Ytjmgokjflfhohaa.chunkNobodyDone
open Go.RowKit Mem rb ch
set_option linter.unusedVariables false
theorem zero_tab (w : World) : (w.alloc (.cells Try.zeroCells75 75)).cell? ⟨w.heap.size, 0, none⟩ = some (.int .u64 0) := by
  have hs : Try.zeroCells75.size = 516 := by rw [fresh_eq]; simp
  have h0 : Try.zeroCells75[0]? = some (.int .u64 0) := by rw [fresh_eq]; simp
  have : (w.alloc (.cells Try.zeroCells75 75)).cell? ⟨w.heap.size, 0, none⟩ = Try.zeroCells75[0]? := by go_simp
  rw [this, h0]
set_option maxRecDepth 100000 in
theorem walk (A : Option Addr) (n c : Nat) (l : List UInt8) (w : World) (hr : Rd w w.heap.size A n (bv l)) (hc : n ≤ c) (hn : n ≤ 9223372036854775807) :
    Calls Try.prog 10 #[.slice A n c] w fun e w' => e = .returned (.bool true) ∧ Below w.heap.size w w' := by
  by_cases hlong : 8192 < n
  · go_enter Try.func10, Try.ntmps10
    go_wp2_with (go_at_call 12; refine (awake_any _).mono ?_; rintro e w4 ⟨rfl, hb4⟩)
    go_ret
    exact ⟨rfl, hb4⟩
  · have hz : ((w.alloc (.cells #[.pointer none, .slice none 0 0] 57)).alloc (.cells #[.pointer none, .pointer (some ⟨w.heap.size, 0, none⟩)] 39)).cell? ⟨w.heap.size, 0, none⟩ = some (.pointer none) := by go_simp
    have f0 : ((w.alloc (.cells #[.pointer none, .slice none 0 0] 57)).alloc (.cells #[.pointer none, .pointer (some ⟨w.heap.size, 0, none⟩)] 39)).cell? ⟨w.heap.size + 1, 0, none⟩ = some (.pointer none) := by go_simp
    have f1 : ((w.alloc (.cells #[.pointer none, .slice none 0 0] 57)).alloc (.cells #[.pointer none, .pointer (some ⟨w.heap.size, 0, none⟩)] 39)).cell? ⟨w.heap.size + 1, 1, none⟩ = some (.pointer (some ⟨w.heap.size, 0, none⟩)) := by go_simp
    have hb : Below w.heap.size w ((w.alloc (.cells #[.pointer none, .slice none 0 0] 57)).alloc (.cells #[.pointer none, .pointer (some ⟨w.heap.size, 0, none⟩)] 39)) := ((Below.refl _ w).alloc (Nat.le_refl _) _).alloc (by simp) _
    go_enter Try.func10, Try.ntmps10
    go_wp2_with fail
    generalize (w.alloc (.cells #[.pointer none, .slice none 0 0] 57)).alloc (.cells #[.pointer none, .pointer (some ⟨w.heap.size, 0, none⟩)] 39) = w1 at *
    have hb1 := hb.size
    go_loop [4, 13, 14, 15, 16, 17, 18, 19, 20, 21, 22, 23, 24, 25, 26, 27, 28, 29] (fun _ v _ _ _ _ _ _ _ _ _ _ _ _ _ _ _ _ => ∃ k : Nat, v = .int .i64 (k : Nat) ∧ k ≤ 2) (fun _ v _ _ _ _ _ _ _ _ _ _ _ _ _ _ _ _ => 2 - (intOf v).toNat)
    case atStart => exact ⟨0, rfl, by omega⟩
    case round =>
      obtain ⟨k, rfl, hk⟩ := hrel
      by_cases hlt : k < 2
      · obtain ⟨v, hv, hnt⟩ : ∃ v, w1.cell? ⟨w.heap.size + 1, k, none⟩ = some v ∧ NoCut w1 v := by
          rcases Nat.eq_zero_or_pos k with e | e
          · subst e; exact ⟨_, f0, Or.inl rfl⟩
          · obtain rfl : k = 1 := by omega
            exact ⟨_, f1, Or.inr ⟨_, rfl, hz⟩⟩
        have H1 := Lib.hid (write0 v A n c w1 hnt)
        have H2 := Lib.hid (pending0 v w1 hnt)
        have H3 := Lib.hid (flush0 v w1 hnt)
        have hk1 : (k : Int) < 2 := by omega
        clear hnt f0 f1
        go_wp2_with (first
          | (go_at_call 24; refine H1.out.mono ?_; rintro e w' ⟨rfl, rfl⟩)
          | (go_at_call 23; refine H2.out.mono ?_; rintro e w' ⟨rfl, rfl⟩)
          | (go_at_call 22; refine H3.out.mono ?_; rintro e w' ⟨rfl, rfl⟩))
        go_round
        case rel => exact ⟨k + 1, by go_num, by omega⟩
        case measure => simp only [intOf]; omega
      · clear f0 f1 hz
        have gz := zero_tab w1
        have hb2 : Below w.heap.size w (w1.alloc (.cells Try.zeroCells75 75)) := hb.alloc hb1 _
        have H0 := Lib.hid (new0 (.pointer none) w1 (Or.inl rfl))
        have H1 := Lib.hid (new0 (.pointer (some ⟨w1.heap.size, 0, none⟩)) (w1.alloc (.cells Try.zeroCells75 75)) (Or.inr ⟨_, rfl, gz⟩))
        clear gz
        go_wp2_with (go_at_call 21; with_reducible refine H0.out.mono ?_; rintro e w' ⟨rfl, rfl⟩)
        generalize w1.alloc (.cells Try.zeroCells75 75) = w2 at *
        have hs2 := hb2.size
        refine H1.out.mono ?_
        rintro e w' ⟨rfl, rfl⟩
        go_wp2_with (first
          | (go_at_call 15; refine (all0 _ _ _ _).mono ?_; rintro e w' ⟨rfl, rfl⟩)
          | (go_at_call 12; refine (awake_any _).mono ?_; rintro e w9 ⟨rfl, hb9⟩))
        go_ret
        exact ⟨rfl, hb2.trans (hb9.mono hb2.size)⟩
end Go.Proofs.Ytjmgokjflfhohaa.chunkNobodyDone
namespace Go.Proofs.Ytjmgokjflfhohaa.chunkNobodyDone
open Go.ChangeShapes Go.WideShapes Go.ChangeAt Go.RowKit Mem rb ch
set_option linter.unusedVariables false
theorem own : ownKnob Try.prog.godebug = none := by kernel_rfl
theorem laidOut : laidOutB Try.prog = true := by kernel_rfl
set_option maxRecDepth 100000 in
theorem lifted (os : Os) (started : os.Started) (H : Type) (enc : TypeId × Value → H) :
    ReturnsInHanded {} Try.checked os 10 .any (Rows.chunkNobodySpec.pre6 enc Try.prog Try.f10 Rows.chunkNobodyRow.domain false) (Rows.chunkNobodySpec.post enc Try.prog Try.f10 false true false false) := by
  refine returnsInHanded_of_change (C := Try.checked) own started (by kernel_rfl) Try.func10
    (ChangeSpec.witness6 (enc := enc) (C := Try.checked) false ⟨#[], #[.slice none 0 0], []⟩ 8 (by kernel_rfl) (by kernel_rfl) (by kernel_rfl) (by kernel_rfl)) ?_
  intro W base args ds gs before hval0 hW hcnd _
  have hval : ∀ (j : Nat) t v, Try.f10.params[j]? = some t → args[j]? = some v → Value.okWide Try.prog W .any base t v := hval0
  have hW' := hW
  obtain ⟨p, q, hA0, hV, rfl, hfz, hnd⟩ := hW
  have hA : DataW.TrodAll enc Try.prog W 0 (fun _ => true) true Try.f10.params.toList args.toList ds p := hA0
  rw [Try.params10] at hA hval
  obtain ⟨v0, vs0, d0, ds0, p0, q0, hargs, rfl, rfl, h0, r0⟩ := trodAll_cons hA
  obtain ⟨rfl, rfl, rfl⟩ := trodAll_nil r0
  obtain rfl : args = #[v0] := by cases args; simp_all
  obtain ⟨rfl, rfl⟩ := trodVars_none hV
  obtain ⟨a0, n0, c0, rfl⟩ := okWide_slice Try.underlying23 (hval 0 23 v0 rfl rfl)
  have k0 := h0
  have lt0 : ∀ x ∈ p0, x.block < W.heap.size := by obtain ⟨m, hm⟩ := k0; exact DataW.trod_lt m _ _ _ hm
  obtain ⟨l0, w0, m0, b0⟩ : ∃ l : List UInt8, Rd W W.heap.size a0 n0 (bv l) ∧ n0 ≤ c0 ∧ n0 ≤ 9223372036854775807 := by
    obtain ⟨fuel, hf⟩ := h0
    rcases open_ints Try.underlying23 Try.underlying5 (by kernel_rfl) hf with ⟨hcs, _⟩ | ⟨x, l, c, zs, hcs, _, hl, hm, hz, _, hcell, hwz⟩
    · simp [Value.cells] at hcs
      obtain ⟨rfl, rfl, rfl⟩ := hcs
      exact ⟨[], Rd.nil _ _ _, Nat.le_refl _, by omega⟩
    · simp [Value.cells] at hcs
      obtain ⟨rfl, rfl, rfl⟩ := hcs
      unfold maxLen at hm
      obtain ⟨l, hl2⟩ := rd_bytes hl (by simpa using hz) hcell hwz
      exact ⟨l, hl2, hl, by omega⟩
  clear hA0 hval0
  refine (walk a0 n0 c0 l0 W w0 m0 b0).mono fun e W' ⟨he, bel⟩ => ?_
  subst he
  exact ⟨_, rfl, _, _, _, [], _, [], hW', trodAll_mk1 (shut_bool Try.underlying4 _), (trodAll_cons_mk (Below.trod laidOut (by kernel_rfl) (of_decide_eq_true (by kernel_rfl)) k0 bel lt0) trodAll_mk0), rfl, bel.frame _, fun h => by cases h⟩

theorem over : Rows.chunkNobodyRow.holds Try.pinned (OpenSpec.ofChange Rows.chunkNobodySpec) :=
  OpenClaim.holds_of_wide 10 Try.f10 rfl rfl rfl rfl rfl rfl rfl ⟨rfl, rfl, rfl, rfl, rfl⟩ rfl rfl rfl rfl rfl (by kernel_rfl) Try.func10 (by kernel_rfl)
    (of_decide_eq_true (by kernel_rfl)) (by unfold Func.isWrapper; first | (rw [if_pos (by decide +kernel)]; kernel_rfl) | (rw [if_neg (by decide +kernel)]; exact ⟨rfl, rfl⟩))
    (fun os started H enc _ => lifted os started H enc)
/-- the given statement -/
theorem proved : Rows.ChunkNobodySaid := over
#print axioms proved
end Go.Proofs.Ytjmgokjflfhohaa.chunkNobodyDone
