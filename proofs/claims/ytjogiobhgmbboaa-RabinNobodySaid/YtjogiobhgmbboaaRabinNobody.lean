/- RabinNobody: for every input the law answers true and leaves its arguments as they were. -/
import Derived.Test.YtjogiobhgmbboaaRows
import Derived.Test.YtjogiobhgmbboaaRbM
import Derived.ProofKit
import Derived.OpenShut
import Derived.ShutString
import Derived.ChangeOld
namespace Go.Proofs.Ytjogiobhgmbboaa.rabinNobodyDone
open Go.RowKit Mem rb
set_option linter.unusedVariables false
/-- a table that no call made -/
def NoTab (w : World) (v : Value) : Prop := v = .pointer none ∨ ∃ b, v = .pointer (some ⟨b, 0, none⟩) ∧ w.cell? ⟨b, 0, none⟩ = some (.int .u64 0)
theorem poly0 (v : Value) (w : World) (h : NoTab w v) : Calls Try.prog 33 #[v] w fun e w' => e = .returned (.int .u64 0) ∧ w = w' := by
  rcases h with rfl | ⟨b, rfl, h⟩
  · exact poly_nil w
  · exact poly_any (p := 0) w h
theorem print0 (v : Value) (A : Option Addr) (n c : Nat) (w : World) (h : NoTab w v) : Calls Try.prog 30 #[v, .slice A n c] w fun e w' => e = .returned (.int .u64 0) ∧ w = w' := by
  have H := Lib.hid (poly0 v w h)
  clear h
  go_enter Try.func30, Try.ntmps30
  go_wp2_with (go_at_call 33; refine H.out.mono ?_; rintro e w' ⟨rfl, rfl⟩)
  go_ret
  exact ⟨rfl, rfl⟩
theorem roll0 (v : Value) (w : World) (h : NoTab w v) : Calls Try.prog 34 #[v] w fun e w' => e = .returned (.pointer none) ∧ w = w' := by
  have H := Lib.hid (poly0 v w h)
  clear h
  go_enter Try.func34, Try.ntmps34
  go_wp2_with (go_at_call 33; refine H.out.mono ?_; rintro e w' ⟨rfl, rfl⟩)
  go_ret
  exact ⟨rfl, rfl⟩
def NoRol (w : World) (v : Value) : Prop := v = .pointer none ∨ ∃ b, v = .pointer (some ⟨b, 0, none⟩) ∧ w.cell? ⟨b, 0, none⟩ = some (.pointer none)
theorem next0 (v : Value) (x : Int) (w : World) (h : NoRol w v) : Calls Try.prog 35 #[v, .int .u8 x] w fun e w' => e = .returned (.int .u64 0) ∧ w = w' := by
  rcases h with rfl | ⟨b, rfl, h⟩
  all_goals
    go_enter Try.func35, Try.ntmps35
    go_wp2_with fail
    go_ret
    exact ⟨rfl, rfl⟩
theorem zero_tab (w : World) (o : Obj) : ((w.alloc (.cells Try.zeroCells64 64)).alloc o).cell? ⟨w.heap.size, 0, none⟩ = some (.int .u64 0) := by
  have hs : Try.zeroCells64.size = 516 := by rw [fresh_eq]; simp
  have h0 : Try.zeroCells64[0]? = some (.int .u64 0) := by rw [fresh_eq]; simp
  rw [World.cell?_alloc_past _ _ _ (by simp)]
  have : (w.alloc (.cells Try.zeroCells64 64)).cell? ⟨w.heap.size, 0, none⟩ = Try.zeroCells64[0]? := by go_simp
  rw [this, h0]
set_option maxRecDepth 100000 in
theorem walk (A : Option Addr) (n c : Nat) (l : List UInt8) (x : Int) (w : World) (hr : Rd w w.heap.size A n (bv l)) (hc : n ≤ c) (hn : n ≤ 9223372036854775807) (hx : (Lit.int .u8 x).wf = true) :
    Calls Try.prog 14 #[.slice A n c, .int .u8 x] w fun e w' => e = .returned (.bool true) ∧ Below w.heap.size w w' := by
  by_cases hlong : 8192 < n
  · go_enter Try.func14, Try.ntmps14
    go_wp2_with (go_at_call 19; refine (awake_any _).mono ?_; rintro e w4 ⟨rfl, hb4⟩)
    go_ret
    exact ⟨rfl, hb4⟩
  · have hz := zero_tab w (.cells #[.pointer none, .pointer (some ⟨w.heap.size, 0, none⟩)] 29)
    have f0 : ((w.alloc (.cells Try.zeroCells64 64)).alloc (.cells #[.pointer none, .pointer (some ⟨w.heap.size, 0, none⟩)] 29)).cell? ⟨w.heap.size + 1, 0, none⟩ = some (.pointer none) := by go_simp
    have f1 : ((w.alloc (.cells Try.zeroCells64 64)).alloc (.cells #[.pointer none, .pointer (some ⟨w.heap.size, 0, none⟩)] 29)).cell? ⟨w.heap.size + 1, 1, none⟩ = some (.pointer (some ⟨w.heap.size, 0, none⟩)) := by go_simp
    have hb : Below w.heap.size w ((w.alloc (.cells Try.zeroCells64 64)).alloc (.cells #[.pointer none, .pointer (some ⟨w.heap.size, 0, none⟩)] 29)) := ((Below.refl _ w).alloc (Nat.le_refl _) _).alloc (by simp) _
    go_enter Try.func14, Try.ntmps14
    go_wp2_with fail
    generalize (w.alloc (.cells Try.zeroCells64 64)).alloc (.cells #[.pointer none, .pointer (some ⟨w.heap.size, 0, none⟩)] 29) = w1 at *
    have hb1 := hb.size
    go_loop [6, 17, 18, 19, 20, 21, 22, 23, 24, 25, 26, 27, 28, 29, 30, 31, 32, 33, 34, 35] (fun _ v _ _ _ _ _ _ _ _ _ _ _ _ _ _ _ _ _ _ => ∃ k : Nat, v = .int .i64 (k : Nat) ∧ k ≤ 2) (fun _ v _ _ _ _ _ _ _ _ _ _ _ _ _ _ _ _ _ _ => 2 - (intOf v).toNat)
    case atStart => exact ⟨0, rfl, by omega⟩
    case round =>
      obtain ⟨k, rfl, hk⟩ := hrel
      by_cases hlt : k < 2
      · obtain ⟨v, hv, hnt⟩ : ∃ v, w1.cell? ⟨w.heap.size + 1, k, none⟩ = some v ∧ NoTab w1 v := by
          rcases Nat.eq_zero_or_pos k with e | e
          · subst e; exact ⟨_, f0, Or.inl rfl⟩
          · obtain rfl : k = 1 := by omega
            exact ⟨_, f1, Or.inr ⟨_, rfl, hz⟩⟩
        have H1 := Lib.hid (poly0 v w1 hnt)
        have H2 := Lib.hid (print0 v A n c w1 hnt)
        have H3 := Lib.hid (roll0 v w1 hnt)
        have hk1 : (k : Int) < 2 := by omega
        clear hnt f0 f1
        go_wp2_with (first
          | (go_at_call 33; refine H1.out.mono ?_; rintro e w' ⟨rfl, rfl⟩)
          | (go_at_call 30; refine H2.out.mono ?_; rintro e w' ⟨rfl, rfl⟩)
          | (go_at_call 34; refine H3.out.mono ?_; rintro e w' ⟨rfl, rfl⟩))
        go_round
        case rel => exact ⟨k + 1, by go_num, by omega⟩
        case measure => simp only [intOf]; omega
      · clear f0 f1 hz
        have g0 : ((w1.alloc (.cells #[.pointer none, .int .u64 0, .int .u8 0, .int .u8 0, .int .u8 0, .int .u8 0, .int .u8 0, .int .u8 0, .int .u8 0, .int .u8 0, .int .u8 0, .int .u8 0, .int .u8 0, .int .u8 0, .int .u8 0, .int .u8 0, .int .u8 0, .int .u8 0, .int .i64 0] 68)).alloc (.cells #[.pointer none, .pointer (some ⟨w1.heap.size, 0, none⟩)] 43)).cell? ⟨w1.heap.size + 1, 0, none⟩ = some (.pointer none) := by go_simp
        have g1 : ((w1.alloc (.cells #[.pointer none, .int .u64 0, .int .u8 0, .int .u8 0, .int .u8 0, .int .u8 0, .int .u8 0, .int .u8 0, .int .u8 0, .int .u8 0, .int .u8 0, .int .u8 0, .int .u8 0, .int .u8 0, .int .u8 0, .int .u8 0, .int .u8 0, .int .u8 0, .int .i64 0] 68)).alloc (.cells #[.pointer none, .pointer (some ⟨w1.heap.size, 0, none⟩)] 43)).cell? ⟨w1.heap.size + 1, 1, none⟩ = some (.pointer (some ⟨w1.heap.size, 0, none⟩)) := by go_simp
        have gz : ((w1.alloc (.cells #[.pointer none, .int .u64 0, .int .u8 0, .int .u8 0, .int .u8 0, .int .u8 0, .int .u8 0, .int .u8 0, .int .u8 0, .int .u8 0, .int .u8 0, .int .u8 0, .int .u8 0, .int .u8 0, .int .u8 0, .int .u8 0, .int .u8 0, .int .u8 0, .int .i64 0] 68)).alloc (.cells #[.pointer none, .pointer (some ⟨w1.heap.size, 0, none⟩)] 43)).cell? ⟨w1.heap.size, 0, none⟩ = some (.pointer none) := by go_simp
        have hb2 : Below w.heap.size w ((w1.alloc (.cells #[.pointer none, .int .u64 0, .int .u8 0, .int .u8 0, .int .u8 0, .int .u8 0, .int .u8 0, .int .u8 0, .int .u8 0, .int .u8 0, .int .u8 0, .int .u8 0, .int .u8 0, .int .u8 0, .int .u8 0, .int .u8 0, .int .u8 0, .int .u8 0, .int .i64 0] 68)).alloc (.cells #[.pointer none, .pointer (some ⟨w1.heap.size, 0, none⟩)] 43)) := (hb.alloc hb1 _).alloc (by simp; omega) _
        go_wp2_with fail
        generalize ((w1.alloc (.cells #[.pointer none, .int .u64 0, .int .u8 0, .int .u8 0, .int .u8 0, .int .u8 0, .int .u8 0, .int .u8 0, .int .u8 0, .int .u8 0, .int .u8 0, .int .u8 0, .int .u8 0, .int .u8 0, .int .u8 0, .int .u8 0, .int .u8 0, .int .u8 0, .int .i64 0] 68)).alloc (.cells #[.pointer none, .pointer (some ⟨w1.heap.size, 0, none⟩)] 43)) = w2 at *
        go_loop [8, 40, 41, 42, 43, 44, 45, 46, 47, 48] (fun _ v _ _ _ _ _ _ _ _ => ∃ j : Nat, v = .int .i64 (j : Nat) ∧ j ≤ 2) (fun _ v _ _ _ _ _ _ _ _ => 2 - (intOf v).toNat)
        case atStart => exact ⟨0, rfl, by omega⟩
        case round =>
          obtain ⟨j, rfl, hj⟩ := hrel
          by_cases hlt2 : j < 2
          · obtain ⟨v, hv, hnt⟩ : ∃ v, w2.cell? ⟨w1.heap.size + 1, j, none⟩ = some v ∧ NoRol w2 v := by
              rcases Nat.eq_zero_or_pos j with e | e
              · subst e; exact ⟨_, g0, Or.inl rfl⟩
              · obtain rfl : j = 1 := by omega
                exact ⟨_, g1, Or.inr ⟨_, rfl, gz⟩⟩
            have H1 := Lib.hid (next0 v x w2 hnt)
            have hk1 : (j : Int) < 2 := by omega
            clear hnt g0 g1 gz
            go_wp2_with (first
              | (go_at_call 35; refine H1.out.mono ?_; rintro e w' ⟨rfl, rfl⟩))
            go_round
            case rel => exact ⟨j + 1, by go_num, by omega⟩
            case measure => simp only [intOf]; omega
          · clear g0 g1 gz
            go_wp2_with (go_at_call 19; refine (awake_any _).mono ?_; rintro e w9 ⟨rfl, hb9⟩)
            go_ret
            exact ⟨rfl, hb2.trans (hb9.mono hb2.size)⟩
end Go.Proofs.Ytjogiobhgmbboaa.rabinNobodyDone
namespace Go.Proofs.Ytjogiobhgmbboaa.rabinNobodyDone
open Go.ChangeShapes Go.WideShapes Go.ChangeAt Go.RowKit Mem rb
set_option linter.unusedVariables false
theorem own : ownKnob Try.prog.godebug = none := by kernel_rfl
theorem laidOut : laidOutB Try.prog = true := by kernel_rfl
set_option maxRecDepth 100000 in
theorem lifted (os : Os) (started : os.Started) (H : Type) (enc : TypeId × Value → H) :
    ReturnsInHanded {} Try.checked os 14 .any (Rows.rabinNobodySpec.pre6 enc Try.prog Try.f14 Rows.rabinNobodyRow.domain false) (Rows.rabinNobodySpec.post enc Try.prog Try.f14 false true false false) := by
  refine returnsInHanded_of_change (C := Try.checked) own started (by kernel_rfl) Try.func14
    (ChangeSpec.witness6 (enc := enc) (C := Try.checked) false ⟨#[], #[.slice none 0 0, .int .u8 0], []⟩ 8 (by kernel_rfl) (by kernel_rfl) (by kernel_rfl) (by kernel_rfl)) ?_
  intro W base args ds gs before hval0 hW hcnd _
  have hval : ∀ (j : Nat) t v, Try.f14.params[j]? = some t → args[j]? = some v → Value.okWide Try.prog W .any base t v := hval0
  have hW' := hW
  obtain ⟨p, q, hA0, hV, rfl, hfz, hnd⟩ := hW
  have hA : DataW.TrodAll enc Try.prog W 0 (fun _ => true) true Try.f14.params.toList args.toList ds p := hA0
  rw [Try.params14] at hA hval
  obtain ⟨v0, vs0, d0, ds0, p0, q0, hargs, rfl, rfl, h0, r0⟩ := trodAll_cons hA
  obtain ⟨v1, vs1, d1, ds1, p1, q1, rfl, rfl, rfl, h1, r1⟩ := trodAll_cons r0
  obtain ⟨rfl, rfl, rfl⟩ := trodAll_nil r1
  obtain rfl : args = #[v0, v1] := by cases args; simp_all
  obtain ⟨rfl, rfl⟩ := trodVars_none hV
  obtain ⟨a0, n0, c0, rfl⟩ := okWide_slice Try.underlying34 (hval 0 34 v0 rfl rfl)
  have k0 := h0
  have lt0 : ∀ x ∈ p0, x.block < W.heap.size := by obtain ⟨m, hm⟩ := k0; exact DataW.trod_lt m _ _ _ hm
  obtain ⟨l0, w0, m0, b0⟩ : ∃ l : List UInt8, Rd W W.heap.size a0 n0 (bv l) ∧ n0 ≤ c0 ∧ n0 ≤ 9223372036854775807 := by
    obtain ⟨fuel, hf⟩ := h0
    rcases open_ints Try.underlying34 Try.underlying5 (by kernel_rfl) hf with ⟨hcs, _⟩ | ⟨x, l, c, zs, hcs, _, hl, hm, hz, _, hcell, hwz⟩
    · simp [Value.cells] at hcs
      obtain ⟨rfl, rfl, rfl⟩ := hcs
      exact ⟨[], Rd.nil _ _ _, Nat.le_refl _, by omega⟩
    · simp [Value.cells] at hcs
      obtain ⟨rfl, rfl, rfl⟩ := hcs
      unfold maxLen at hm
      obtain ⟨l, hl2⟩ := rd_bytes hl (by simpa using hz) hcell hwz
      exact ⟨l, hl2, hl, by omega⟩
  obtain ⟨a1, rfl, rfl, rfl, w1⟩ := open_int Try.underlying5 (hval 1 5 v1 rfl rfl) h1
  clear hA0 hval0
  refine (walk a0 n0 c0 l0 a1 W w0 m0 b0 w1).mono fun e W' ⟨he, bel⟩ => ?_
  subst he
  exact ⟨_, rfl, _, _, _, [], _, [], hW', trodAll_mk1 (shut_bool Try.underlying4 _), (trodAll_cons_mk (Below.trod laidOut (by kernel_rfl) (of_decide_eq_true (by kernel_rfl)) k0 bel lt0) (trodAll_cons_mk (shut_int Try.underlying5 w1) trodAll_mk0)), rfl, bel.frame _, fun h => by cases h⟩

theorem over : Rows.rabinNobodyRow.holds Try.pinned (OpenSpec.ofChange Rows.rabinNobodySpec) :=
  OpenClaim.holds_of_wide 14 Try.f14 rfl rfl rfl rfl rfl rfl rfl ⟨rfl, rfl, rfl, rfl, rfl⟩ rfl rfl rfl rfl rfl (by kernel_rfl) Try.func14 (by kernel_rfl)
    (of_decide_eq_true (by kernel_rfl)) (by unfold Func.isWrapper; first | (rw [if_pos (by decide +kernel)]; kernel_rfl) | (rw [if_neg (by decide +kernel)]; exact ⟨rfl, rfl⟩))
    (fun os started H enc _ => lifted os started H enc)
/-- the given statement -/
theorem proved : Rows.RabinNobodySaid := over
#print axioms proved
end Go.Proofs.Ytjogiobhgmbboaa.rabinNobodyDone
