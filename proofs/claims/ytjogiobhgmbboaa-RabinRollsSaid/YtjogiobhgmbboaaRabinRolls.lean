/- RabinRolls: for every input the law answers true and leaves its arguments as they were. -/
import Derived.Test.YtjogiobhgmbboaaRows
import Derived.Test.YtjogiobhgmbboaaRbM
import Derived.ProofKit
import Derived.OpenShut
import Derived.ShutString
import Derived.ChangeOld
namespace Go.Proofs.Ytjogiobhgmbboaa.rabinRollsDone
open Go.RowKit Mem rb
set_option linter.unusedVariables false
theorem rd_congr {w : World} {B n : Nat} {A : Option Addr} {xs ys : List Value} (h : Rd w B A n xs) (e : xs = ys) : Rd w B A n ys := e ▸ h
/-- a roller of a table, and what the world keeps -/
def OneR (W : World) (r b q : Nat) (x : List UInt8) (w : World) : Prop := RolS w r b q x ∧ TabB w b q 1 0 (AV q) (FV q) ∧ Below W.heap.size W w ∧ r ≠ b ∧ W.heap.size ≤ r ∧ W.heap.size ≤ b
theorem OneR.next {W w w' : World} {r b q : Nat} {x y : List UInt8} (h : OneR W r b q x w) (hr : RolS w' r b q y) (hg : Grown r w w') : OneR W r b q y w' := by
  obtain ⟨h1, h3, h4, h5, h6, h7⟩ := h
  exact ⟨hr, h3.grown hg (fun e => h5 e.symm), below_of_grown' h4 hg ⟨h6, h4.size⟩, h5, h6, h7⟩
theorem OneR.drew {W w : World} {r b q : Nat} {x : List UInt8} (h : OneR W r b q x w) : OneR W r b q x w.drew := ⟨h.1.drew, h.2.1.drew, h.2.2.1.drew, h.2.2.2⟩
theorem OneR.below {W w w' : World} {r b q : Nat} {x : List UInt8} (h : OneR W r b q x w) (hb : Below w.heap.size w w') : OneR W r b q x w' := by
  obtain ⟨h1, h3, h4, h5, h6, h7⟩ := h
  have hl := h1.lt
  have hg : Grown w.heap.size w w' := ⟨hb.os, hb.tape, hb.output, hb.size, fun k hk _ => hb.block k hk⟩
  exact ⟨h1.grown hg (by omega), h3.below hb h3.lt, h4.trans (hb.mono h4.size), h5, h6, h7⟩
theorem walk (p : Int) (A : Option Addr) (n c : Nat) (l : List UInt8) (w : World) (hp : (Lit.int .u64 p).wf = true) (hr : Rd w w.heap.size A n (bv l)) (hc : n ≤ c) (hn : n ≤ 9223372036854775807) :
    Calls Try.prog 8 #[.int .u64 p, .slice A n c] w fun e w' => e = .returned (.bool true) ∧ Below w.heap.size w w' := by
  replace hp := u64_nat hp
  obtain ⟨p, rfl, hp⟩ := hp
  by_cases hlong : 600 < n
  · go_enter Try.func8, Try.ntmps8
    go_wp2_with (go_at_call 19; refine (awake_any _).mono ?_; rintro e w4 ⟨rfl, hb4⟩)
    go_ret
    exact ⟨rfl, hb4⟩
  · have hg := tq_good p
    have hq := good_log hg
    have hq64 := log31_lt hq
    have hT := fresh_tab (tq p) w
    have hb : Below w.heap.size w (w.alloc (.cells (freshT (tq p)) 64)) := (Below.refl _ w).alloc (Nat.le_refl _) _
    have hsz : (w.alloc (.cells (freshT (tq p)) 64)).heap.size = w.heap.size + 1 := by simp
    have HT := fun w => Lib.hid (table_any p w hp)
    obtain ⟨q, hqd⟩ : ∃ q, tq p = q := ⟨_, rfl⟩
    unfold TablePost at HT
    rw [hqd] at hq hq64 hT hb hsz HT
    clear hqd hg
    have HS := Lib.hid (And.intro hb hsz)
    clear hb hsz
    have N1 := Lib.hid (show l.length = n by rw [← bv_len, hr.len])
    go_enter Try.func8, Try.ntmps8
    go_wp2_with fail
    refine (HT w).out.mono ?_
    rintro e w1 ⟨rfl, hw1⟩
    rw [← hw1] at hT HS
    clear hw1 HT
    have s1 := HS.out.2
    have HB1 := Lib.hid HS.out.1
    clear HS
    go_wp2_with fail
    refine (roll_any w.heap.size q _ hq (Or.inl hT)).mono ?_
    rintro e w2 ⟨r1, rfl, hrw1, hR1, hT2, hG2⟩
    have hT0 : OneR w r1 w.heap.size q (last16 (l.take 0)) w2 := by
      rw [List.take_zero, last16_nil]
      exact ⟨RolS.start hq hR1, hT2, below_of_grown' HB1.out hG2 ⟨Nat.le_refl _, by omega⟩, by omega, by omega, Nat.le_refl _⟩
    clear hR1 hT2 hG2 HB1 hT hrw1 s1
    go_wp2_with fail
    go_loopw [7, 8, 22, 23, 24, 25, 26, 27, 28, 29, 30, 31, 32, 33, 34, 35, 36, 37, 38] (fun _ _ v _ _ _ _ _ _ _ _ _ _ _ _ _ _ _ _ wr => ∃ k : Nat, v = .int .i64 (k : Nat) ∧ k ≤ n ∧ OneR w r1 w.heap.size q (last16 (l.take k)) wr) (fun _ _ v _ _ _ _ _ _ _ _ _ _ _ _ _ _ _ _ _ => n - (intOf v).toNat)
    case atStart => exact ⟨0, rfl, by omega, hT0⟩
    case round =>
      obtain ⟨k, rfl, hk, h2⟩ := hrel
      by_cases hlt : k < n
      · have hkl : k < l.length := by have := N1.out; omega
        have hb4 := h2.2.2.1
        have hrk := hr.below hb4 (Nat.le_refl _)
        obtain ⟨b1, o1, rfl, hb1, hcell⟩ := hrk.at_ hlt
        rw [bv_at l k hkl] at hcell
        obtain ⟨x, hx⟩ : ∃ x, x = l[k] := ⟨_, rfl⟩
        rw [← hx] at hcell
        have hs : (last16 (l.take k)).drop 1 ++ [x] = last16 (l.take (k + 1)) := by rw [take_snoc8 l k hkl, last16_snoc, hx]
        have hN := next_s (last16 (l.take k)) x wr.drew hq h2.drew.2.1 h2.drew.1 h2.2.2.2.1
        rw [hs] at hN
        have HN := Lib.hid hN
        obtain ⟨f, hf⟩ : ∃ f, f = fp q (last16 (l.take (k + 1))) := ⟨_, rfl⟩
        rw [← hf] at HN
        have hcut := hrk.cut (l := 0) (m := k + 1) (by omega) (A' := some ⟨b1, o1, none⟩) (fun _ => by simp [Addr.add])
        rw [List.drop_zero, ← bv_take] at hcut
        have HCUT := fun wz (hz : OneR w r1 w.heap.size q (last16 (l.take (k + 1))) wz) => Lib.hid (last_any (some ⟨b1, o1, none⟩) (k + 1) c w.heap.size (l.take (k + 1)) wz (rd_congr ((hr.below hz.2.2.1 (Nat.le_refl _)).cut (l := 0) (m := k + 1) (by omega) (A' := some ⟨b1, o1, none⟩) (fun _ => by simp [Addr.add])) (by rw [List.drop_zero, bv_take])) hz.2.2.1.size (by omega))
        have H2 := Lib.hid h2
        have hk1 : (k : Int) < (n : Int) := by omega
        have hk2 : (k : Int) + 1 ≤ (c : Int) := by omega
        have hi1 : ((k : Int) + 1).toNat = k + 1 := by omega
        have hwk : IntKind.i64.wrap ((k : Int) + 1) = (k : Int) + 1 := by simp [IntKind.wrap, IntKind.bits, IntKind.signed]; omega
        have hi0 : 0 ≤ (k : Int) + 1 := by omega
        clear hN hs hx hcut h2
        go_wp2_with fail
        go_region_law (first
          | (go_simp; go_at_call 35; refine HN.out.mono ?_; rintro e w5 ⟨rfl, hS5, hG5⟩; have h5 := H2.out.drew.next hS5 hG5; clear hS5 hG5)
          | (go_simp; go_at_call 36; refine (HCUT _ h5).out.mono ?_; rintro e w6 ⟨A6, c6, rfl, hR6, hB6⟩; have h6 := h5.below hB6)
          | (go_simp; go_at_call 31; refine (rprint_any w6.heap.size 16 c6 A6 _ w6 hq (by omega) hR6 (by omega)).mono ?_; rintro e w7 ⟨rfl, rfl⟩))
        have hne : (((fp q (last16 (List.take (k + 1) l)) : Nat) : Int) != ((fp q (last16 (List.take (k + 1) l)) : Nat) : Int)) = false := by simp
        generalize fp q (last16 (List.take (k + 1) l)) = y at *
        go_wp2_with fail
        go_roundw
        case rel => exact ⟨k + 1, by go_num, by omega, h6⟩
        case measure => simp only [intOf]; omega
      · have hbe := h2.2.2.1
        clear h2
        go_wp2_with (go_at_call 19; refine (awake_any _).mono ?_; rintro e w9 ⟨rfl, hb9⟩)
        go_ret
        exact ⟨rfl, hbe.trans (hb9.mono hbe.size)⟩
end Go.Proofs.Ytjogiobhgmbboaa.rabinRollsDone
namespace Go.Proofs.Ytjogiobhgmbboaa.rabinRollsDone
open Go.ChangeShapes Go.WideShapes Go.ChangeAt Go.RowKit Mem rb
set_option linter.unusedVariables false
theorem own : ownKnob Try.prog.godebug = none := by kernel_rfl
theorem laidOut : laidOutB Try.prog = true := by kernel_rfl
set_option maxRecDepth 100000 in
theorem lifted (os : Os) (started : os.Started) (H : Type) (enc : TypeId × Value → H) :
    ReturnsInHanded {} Try.checked os 8 .any (Rows.rabinRollsSpec.pre6 enc Try.prog Try.f8 Rows.rabinRollsRow.domain false) (Rows.rabinRollsSpec.post enc Try.prog Try.f8 false true false false) := by
  refine returnsInHanded_of_change (C := Try.checked) own started (by kernel_rfl) Try.func8
    (ChangeSpec.witness6 (enc := enc) (C := Try.checked) false ⟨#[], #[.int .u64 0, .slice none 0 0], []⟩ 8 (by kernel_rfl) (by kernel_rfl) (by kernel_rfl) (by kernel_rfl)) ?_
  intro W base args ds gs before hval0 hW hcnd _
  have hval : ∀ (j : Nat) t v, Try.f8.params[j]? = some t → args[j]? = some v → Value.okWide Try.prog W .any base t v := hval0
  have hW' := hW
  obtain ⟨p, q, hA0, hV, rfl, hfz, hnd⟩ := hW
  have hA : DataW.TrodAll enc Try.prog W 0 (fun _ => true) true Try.f8.params.toList args.toList ds p := hA0
  rw [Try.params8] at hA hval
  obtain ⟨v0, vs0, d0, ds0, p0, q0, hargs, rfl, rfl, h0, r0⟩ := trodAll_cons hA
  obtain ⟨v1, vs1, d1, ds1, p1, q1, rfl, rfl, rfl, h1, r1⟩ := trodAll_cons r0
  obtain ⟨rfl, rfl, rfl⟩ := trodAll_nil r1
  obtain rfl : args = #[v0, v1] := by cases args; simp_all
  obtain ⟨rfl, rfl⟩ := trodVars_none hV
  obtain ⟨a0, rfl, rfl, rfl, w0⟩ := open_int Try.underlying22 (hval 0 22 v0 rfl rfl) h0
  obtain ⟨a1, n1, c1, rfl⟩ := okWide_slice Try.underlying34 (hval 1 34 v1 rfl rfl)
  have k1 := h1
  have lt1 : ∀ x ∈ p1, x.block < W.heap.size := by obtain ⟨m, hm⟩ := k1; exact DataW.trod_lt m _ _ _ hm
  obtain ⟨l1, w1, m1, b1⟩ : ∃ l : List UInt8, Rd W W.heap.size a1 n1 (bv l) ∧ n1 ≤ c1 ∧ n1 ≤ 9223372036854775807 := by
    obtain ⟨fuel, hf⟩ := h1
    rcases open_ints Try.underlying34 Try.underlying5 (by kernel_rfl) hf with ⟨hcs, _⟩ | ⟨x, l, c, zs, hcs, _, hl, hm, hz, _, hcell, hwz⟩
    · simp [Value.cells] at hcs
      obtain ⟨rfl, rfl, rfl⟩ := hcs
      exact ⟨[], Rd.nil _ _ _, Nat.le_refl _, by omega⟩
    · simp [Value.cells] at hcs
      obtain ⟨rfl, rfl, rfl⟩ := hcs
      unfold maxLen at hm
      obtain ⟨l, hl2⟩ := rd_bytes hl (by simpa using hz) hcell hwz
      exact ⟨l, hl2, hl, by omega⟩
  clear hA0 hval0
  refine (walk a0 a1 n1 c1 l1 W w0 w1 m1 b1).mono fun e W' ⟨he, bel⟩ => ?_
  subst he
  exact ⟨_, rfl, _, _, _, [], _, [], hW', trodAll_mk1 (shut_bool Try.underlying4 _), (trodAll_cons_mk (shut_int Try.underlying22 w0) (trodAll_cons_mk (Below.trod laidOut (by kernel_rfl) (of_decide_eq_true (by kernel_rfl)) k1 bel lt1) trodAll_mk0)), rfl, bel.frame _, fun h => by cases h⟩

theorem over : Rows.rabinRollsRow.holds Try.pinned (OpenSpec.ofChange Rows.rabinRollsSpec) :=
  OpenClaim.holds_of_wide 8 Try.f8 rfl rfl rfl rfl rfl rfl rfl ⟨rfl, rfl, rfl, rfl, rfl⟩ rfl rfl rfl rfl rfl (by kernel_rfl) Try.func8 (by kernel_rfl)
    (of_decide_eq_true (by kernel_rfl)) (by unfold Func.isWrapper; first | (rw [if_pos (by decide +kernel)]; kernel_rfl) | (rw [if_neg (by decide +kernel)]; exact ⟨rfl, rfl⟩))
    (fun os started H enc _ => lifted os started H enc)
/-- the given statement -/
theorem proved : Rows.RabinRollsSaid := over
#print axioms proved
end Go.Proofs.Ytjogiobhgmbboaa.rabinRollsDone
