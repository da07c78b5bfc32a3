/- RabinPrints: for every input the law answers true and leaves its arguments as they were. -/
import Derived.Test.YtjogiobhgmbboaaRows
import Derived.Test.YtjogiobhgmbboaaRbK
import Derived.ProofKit
import Derived.OpenShut
import Derived.ShutString
import Derived.ChangeOld
namespace Go.Proofs.Ytjogiobhgmbboaa.rabinPrintsDone
open Go.RowKit Mem rb
set_option linter.unusedVariables false
theorem walk (p : Int) (A : Option Addr) (n c : Nat) (l : List UInt8) (w : World) (hp : (Lit.int .u64 p).wf = true) (hr : Rd w w.heap.size A n (bv l)) (hc : n ≤ c) (hn : n ≤ 9223372036854775807) :
    Calls Try.prog 7 #[.int .u64 p, .slice A n c] w fun e w' => e = .returned (.bool true) ∧ Below w.heap.size w w' := by
  replace hp := u64_nat hp
  obtain ⟨p, rfl, hp⟩ := hp
  by_cases hlong : 8192 < n
  · go_enter Try.func7, Try.ntmps7
    go_wp2_with (go_at_call 19; refine (awake_any _).mono ?_; rintro e w4 ⟨rfl, hb4⟩)
    go_ret
    exact ⟨rfl, hb4⟩
  · have hg := tq_good p
    have hT0 := TablePost p w
    have hq := good_log hg
    have hq64 := log31_lt hq
    have hT := fresh_tab (tq p) w
    have hb : Below w.heap.size w (w.alloc (.cells (freshT (tq p)) 64)) := (Below.refl _ w).alloc (Nat.le_refl _) _
    have hsz : (w.alloc (.cells (freshT (tq p)) 64)).heap.size = w.heap.size + 1 := by simp
    have HT := fun w => Lib.hid (table_any p w hp)
    clear hT0
    obtain ⟨q, hqd⟩ : ∃ q, tq p = q := ⟨_, rfl⟩
    unfold TablePost at HT
    rw [hqd] at hq hq64 hT hb hsz HT
    clear hqd hg
    have HS := Lib.hid (And.intro hb hsz)
    clear hb hsz
    go_enter Try.func7, Try.ntmps7
    go_wp2_with fail
    refine (HT w).out.mono ?_
    rintro e w1 ⟨rfl, hw1⟩
    rw [← hw1] at hT HS
    clear hw1 HT
    have hr1 := hr.below HS.out.1 (Nat.le_refl _)
    have s1 := HS.out.2
    go_wp2_with fail
    refine (clone_any A n c w.heap.size l w1 hr1 (by omega) (by omega)).mono ?_
    rintro e w2 ⟨A2, N2, c2, rfl, ho2, hb2⟩
    have hT2 := hT.below hb2 (by omega)
    have s2 := hb2.size
    have hN2 : N2 = n := by have h1 := ho2.len; have h2 := hr.len; omega
    subst hN2
    go_wp2_with fail
    refine (print_any w2.heap.size N2 c2 A2 l w2 hq (Or.inl hT2) (fun w' hG => hG.rd_far ho2.rd (Nat.le_refl _) (fun a e => by
      have := (ho2.blk_lt a.block (by rw [e]; rfl)).1
      omega)) (by omega)).mono ?_
    rintro e w3 ⟨rfl, hT3, hG3⟩
    have hr3 : Rd w3 w.heap.size A N2 (bv l) := hG3.rd (hr1.below hb2 (by omega)) (Nat.le_refl _) (by omega)
    have hg3 : Rd w3 w2.heap.size A2 N2 (bv l) := hG3.rd_far ho2.rd (Nat.le_refl _) (fun a e => by
      have := (ho2.blk_lt a.block (by rw [e]; rfl)).1
      omega)
    have hb3 : Below w.heap.size w w3 := below_of_grown' (HS.out.1.trans (hb2.mono (by omega))) hG3 (by omega)
    have s3 := hb3.size
    go_wp2_with fail
    refine (rprint_any w.heap.size N2 c A l w3 hq (by omega) hr3 (by omega)).mono ?_
    rintro e w4 ⟨rfl, rfl⟩
    go_wp2_with fail
    refine (equal_any A2 A N2 N2 c2 c w2.heap.size w.heap.size l w3 hg3 hr3 (by omega)).mono ?_
    rintro e w4 ⟨rfl, k, rfl⟩
    have hc4 : (w3.drewN k).cell? ⟨w.heap.size, 0, none⟩ = some (.int .u64 (q : Nat)) := hT3.c0
    have hb4 := below_drewN hb3 k
    go_wp2_with (first
      | (go_at_call 33; refine (poly_any _ hc4).mono ?_; rintro e w' ⟨rfl, rfl⟩)
      | (go_at_call 19; refine (awake_any _).mono ?_; rintro e w5 ⟨rfl, hb5⟩))
    go_ret
    exact ⟨rfl, hb4.trans (hb5.mono hb4.size)⟩
end Go.Proofs.Ytjogiobhgmbboaa.rabinPrintsDone
namespace Go.Proofs.Ytjogiobhgmbboaa.rabinPrintsDone
open Go.ChangeShapes Go.WideShapes Go.ChangeAt Go.RowKit Mem rb
set_option linter.unusedVariables false
theorem own : ownKnob Try.prog.godebug = none := by kernel_rfl
theorem laidOut : laidOutB Try.prog = true := by kernel_rfl
set_option maxRecDepth 100000 in
theorem lifted (os : Os) (started : os.Started) (H : Type) (enc : TypeId × Value → H) :
    ReturnsInHanded {} Try.checked os 7 .any (Rows.rabinPrintsSpec.pre6 enc Try.prog Try.f7 Rows.rabinPrintsRow.domain false) (Rows.rabinPrintsSpec.post enc Try.prog Try.f7 false true false false) := by
  refine returnsInHanded_of_change (C := Try.checked) own started (by kernel_rfl) Try.func7
    (ChangeSpec.witness6 (enc := enc) (C := Try.checked) false ⟨#[], #[.int .u64 0, .slice none 0 0], []⟩ 8 (by kernel_rfl) (by kernel_rfl) (by kernel_rfl) (by kernel_rfl)) ?_
  intro W base args ds gs before hval0 hW hcnd _
  have hval : ∀ (j : Nat) t v, Try.f7.params[j]? = some t → args[j]? = some v → Value.okWide Try.prog W .any base t v := hval0
  have hW' := hW
  obtain ⟨p, q, hA0, hV, rfl, hfz, hnd⟩ := hW
  have hA : DataW.TrodAll enc Try.prog W 0 (fun _ => true) true Try.f7.params.toList args.toList ds p := hA0
  rw [Try.params7] at hA hval
  obtain ⟨v0, vs0, d0, ds0, p0, q0, hargs, rfl, rfl, h0, r0⟩ := trodAll_cons hA
  obtain ⟨v1, vs1, d1, ds1, p1, q1, rfl, rfl, rfl, h1, r1⟩ := trodAll_cons r0
  obtain ⟨rfl, rfl, rfl⟩ := trodAll_nil r1
  obtain rfl : args = #[v0, v1] := by cases args; simp_all
  obtain ⟨rfl, rfl⟩ := trodVars_none hV
  obtain ⟨a0, rfl, rfl, rfl, w0⟩ := open_int Try.underlying22 (hval 0 22 v0 rfl rfl) h0
  obtain ⟨a1, n1, c1, rfl⟩ := okWide_slice Try.underlying34 (hval 1 34 v1 rfl rfl)
  have k1 := h1
  have lt1 : ∀ x ∈ p1, x.block < W.heap.size := by obtain ⟨m, hm⟩ := k1; exact DataW.trod_lt m _ _ _ hm
  obtain ⟨l1, w1, m1, b1⟩ : ∃ l : List UInt8, Rd W W.heap.size a1 n1 (bv l) ∧ n1 ≤ c1 ∧ n1 ≤ 9223372036854775807 := by
    obtain ⟨fuel, hf⟩ := h1
    rcases open_ints Try.underlying34 Try.underlying5 (by kernel_rfl) hf with ⟨hcs, _⟩ | ⟨x, l, c, zs, hcs, _, hl, hm, hz, _, hcell, hwz⟩
    · simp [Value.cells] at hcs
      obtain ⟨rfl, rfl, rfl⟩ := hcs
      exact ⟨[], Rd.nil _ _ _, Nat.le_refl _, by omega⟩
    · simp [Value.cells] at hcs
      obtain ⟨rfl, rfl, rfl⟩ := hcs
      unfold maxLen at hm
      obtain ⟨l, hl2⟩ := rd_bytes hl (by simpa using hz) hcell hwz
      exact ⟨l, hl2, hl, by omega⟩
  clear hA0 hval0
  refine (walk a0 a1 n1 c1 l1 W w0 w1 m1 b1).mono fun e W' ⟨he, bel⟩ => ?_
  subst he
  exact ⟨_, rfl, _, _, _, [], _, [], hW', trodAll_mk1 (shut_bool Try.underlying4 _), (trodAll_cons_mk (shut_int Try.underlying22 w0) (trodAll_cons_mk (Below.trod laidOut (by kernel_rfl) (of_decide_eq_true (by kernel_rfl)) k1 bel lt1) trodAll_mk0)), rfl, bel.frame _, fun h => by cases h⟩

theorem over : Rows.rabinPrintsRow.holds Try.pinned (OpenSpec.ofChange Rows.rabinPrintsSpec) :=
  OpenClaim.holds_of_wide 7 Try.f7 rfl rfl rfl rfl rfl rfl rfl ⟨rfl, rfl, rfl, rfl, rfl⟩ rfl rfl rfl rfl rfl (by kernel_rfl) Try.func7 (by kernel_rfl)
    (of_decide_eq_true (by kernel_rfl)) (by unfold Func.isWrapper; first | (rw [if_pos (by decide +kernel)]; kernel_rfl) | (rw [if_neg (by decide +kernel)]; exact ⟨rfl, rfl⟩))
    (fun os started H enc _ => lifted os started H enc)
/-- the given statement -/
theorem proved : Rows.RabinPrintsSaid := over
#print axioms proved
end Go.Proofs.Ytjogiobhgmbboaa.rabinPrintsDone
