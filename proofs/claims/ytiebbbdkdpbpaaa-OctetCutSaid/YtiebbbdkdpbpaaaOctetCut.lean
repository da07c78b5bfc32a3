/- OctetCut: for every input the law answers true and leaves its arguments as they were. -/
import Derived.Test.YtiebbbdkdpbpaaaRows
import Derived.Test.YtiebbbdkdpbpaaaOctR
import Derived.Test.YtiebbbdkdpbpaaaOctAwake
import Derived.ProofKit
import Derived.OpenShut
import Derived.ShutString
import Derived.ChangeOld
namespace Go.Proofs.Ytiebbbdkdpbpaaa.octetCutDone
open Go.RowKit Mem OM oct
theorem rd_take {w : World} {B gb n : Nat} {l : List UInt8} (h : Rd w B (some ⟨gb, 0, none⟩) n (bv l)) (i : Nat) (hi : i ≤ n) : Rd w B (some ⟨gb, 0, none⟩) i (bv (l.take i)) := by
  have := h.cut (l := 0) (m := i) (by omega) (A' := some ⟨gb, 0, none⟩) (fun _ => by simp [Addr.add])
  rw [List.drop_zero, ← bv_take] at this
  exact this
theorem cut_text (l : List UInt8) (j : Nat) (hl : l.length ≤ 9223372036854775807) (hj : j < (numB l.length ++ l).length) : textR ((numB l.length ++ l).take j) l.length = ([], 0, 2) := by
  have hlen := numB_len l.length
  rw [List.length_append, hlen] at hj
  by_cases h : j ≤ fol l.length
  · have e : (numB l.length ++ l).take j = (numB l.length).take j := by rw [List.take_append_of_le_length (by omega)]
    rw [e]
    unfold textR
    rw [look_cut l.length j hl h]
    rfl
  · have e : (numB l.length ++ l).take j = numB l.length ++ l.take (j - (numB l.length).length) := by rw [List.take_append, List.take_of_length_le (by omega)]
    rw [e]
    unfold textR
    rw [look_num l.length _ hl, if_pos rfl, if_neg (by simp only; omega), if_pos (by simp; omega)]
set_option maxHeartbeats 4000000 in
theorem walk (x : Int) (A : Option Addr) (n c : Nat) (l : List UInt8) (k : Int) (w : World) (hx : (Lit.int .i64 x).wf = true) (h : Rd w w.heap.size A n (bv l)) (_hc : n ≤ c) (hn : n ≤ 9223372036854775807) (_hk : (Lit.int .i64 k).wf = true) :
    Calls Try.prog 10 #[.int .i64 x, .slice A n c, .int .i64 k] w fun e w' => e = .returned (.bool true) ∧ Below w.heap.size w w' := by
  obtain ⟨x0, x1⟩ := int_wf hx
  have X0 := Lib.hid x0
  have X1 := Lib.hid x1
  have hlen : n = l.length := by rw [← bv_len, h.len]
  have HL := Lib.hid hlen
  clear hx x0 x1 hlen _hk
  by_cases hbig : 65536 < n
  · go_enter Try.func10, Try.ntmps10
    go_wp2_with fail
    refine (awake_any _).mono ?_
    rintro e w1 ⟨rfl, hb1⟩
    go_wp2
    go_ret
    exact ⟨rfl, hb1⟩
  · obtain ⟨a, ha⟩ : ∃ a : Nat, IntKind.u64.wrap k = (a : Int) := ⟨(IntKind.u64.wrap k).toNat, by rw [Int.toNat_of_nonneg (wrap_u64_nonneg k)]⟩
    go_enter Try.func10, Try.ntmps10
    go_wp2_with fail
    refine (number_any none 0 0 0 x [] _ (Rd.nil _ _ _) (by omega) (by omega) X0.out X1.out).mono ?_
    rintro e w1 ⟨A1, N1, c1, rfl, ho1, hb1⟩
    rw [List.nil_append] at ho1
    have hN1 : N1 = fol x.toNat + 1 := by have := ho1.len; rw [bv_len, numB_len] at this; exact this.symm
    have hf1 := fol_le x.toNat
    have hp1 : 0 < N1 := by omega
    have hp1b : N1 ≤ 9 := by omega
    have hp1i : ¬ ((N1 : Int) = 0) := by omega
    obtain ⟨gb, hA1, hgb1, hgb2⟩ := ho1.at0 (by omega)
    subst hA1
    have hz1 := hb1.size
    have HN1 := Lib.hid hN1
    clear hN1 hf1
    go_wp2_with fail
    refine (text_any none A 0 0 n c _ [] l _ (Rd.nil _ _ _) (h.below hb1 (Nat.le_refl _)) (by omega) (by omega) (by omega)).mono ?_
    rintro e w2 ⟨A2, N2, c2, rfl, ho2, hb2⟩
    rw [List.nil_append, HL.out] at ho2
    have hN2 : N2 = fol n + 1 + n := by have := ho2.len; rw [bv_len, List.length_append, numB_len, ← HL.out] at this; exact this.symm
    have hf2 := fol_le n
    have hp2 : 0 < N2 := by omega
    have hp2b : N2 ≤ 65545 := by omega
    have hp2i : ¬ ((N2 : Int) ≤ (n : Int)) := by omega
    obtain ⟨gt, hA2, hgt1, hgt2⟩ := ho2.at0 (by omega)
    subst hA2
    have hz2 := hb2.size
    have HN2 := Lib.hid hN2
    obtain ⟨i, hi⟩ : ∃ i, i = a % N1 := ⟨_, rfl⟩
    have hi2 : i < N1 := by rw [hi]; exact Nat.mod_lt _ (by omega)
    have hi3 : (a : Int) % (N1 : Int) = (i : Int) := by rw [hi]; simp
    obtain ⟨j, hj⟩ : ∃ j, j = a % N2 := ⟨_, rfl⟩
    have hj2 : j < N2 := by rw [hj]; exact Nat.mod_lt _ (by omega)
    have hj3 : (a : Int) % (N2 : Int) = (j : Int) := by rw [hj]; simp
    have hc1 := ho1.cap
    have hc2 := ho2.cap
    unfold maxLen at hc1 hc2
    have hcut1 := rd_take ((ho1.rd.below hb2 (Nat.le_refl _)).more hz2) i (by omega)
    have hcut2 := rd_take ho2.rd j (by omega)
    have hlk : lk ((numB x.toNat).take i) = (0, 0, 2) := look_cut _ _ (by have := X1.out; omega) (by have := HN1.out; omega)
    have htx : textR ((numB l.length ++ l).take j) (l.length : Int) = ([], 0, 2) := cut_text l j (by have := HL.out; omega) (by rw [List.length_append, numB_len]; have := HL.out; rw [← this]; omega)
    rw [← HL.out] at htx hcut2
    have HLK := Lib.hid hlk
    have HTX := Lib.hid htx
    have g1 : (i : Int) ≤ (c1 : Int) := by omega
    have g2 : i ≤ c1 := by omega
    have g3 : (i : Int) ≤ (N1 : Int) := by omega
    have k1 : (j : Int) ≤ (c2 : Int) := by omega
    have k2 : j ≤ c2 := by omega
    have k3 : (j : Int) ≤ (N2 : Int) := by omega
    have p1 : ((N1 : Int) == 0) = false := by simpa using hp1i
    have p2 : ¬ N2 ≤ n := by omega
    clear hlk htx hi hj hN2 hf2 ho1 ho2
    go_wp2_with fail
    refine (read_r _ i _ _ _ _ hcut1 (Nat.le_refl _) (by omega)).mono ?_
    rintro e w3 ⟨b1, rfl, hlt1, hr1, hb3⟩
    have hz3 := hb3.size
    go_wp2_with fail
    refine (number_r b1 _ _ hr1).mono ?_
    rintro e w4 ⟨rfl, hr2, hk2⟩
    rw [HLK.out] at hr2 ⊢
    have hz4 := hk2.size
    have hb24 : Below w2.heap.size w2 w4 := hk2.below hb3 hz3 hlt1
    go_wp2_with fail
    refine (read_r _ j _ _ _ _ (hcut2.below hb24 (Nat.le_refl _)) (by omega) (by omega)).mono ?_
    rintro e w5 ⟨b2, rfl, hlt2, hr3, hb5⟩
    have hz5 := hb5.size
    go_wp2_with fail
    refine (text_r b2 _ (n : Int) _ hr3).mono ?_
    rintro e w6 ⟨A6, N6, c6, rfl, ho6, hr4, hk4⟩
    rw [HTX.out] at ho6 hr4 ⊢
    have hz6 := hk4.size
    have hb46 : Below w4.heap.size w4 w6 := hk4.below hb5 hz5 hlt2
    have hb06 : Below w.heap.size w w6 := hb1.trans ((hb2.mono hz1).trans ((hb24.mono (by omega)).trans (hb46.mono (by omega))))
    go_wp2_with fail
    refine (awake_any _).mono ?_
    rintro e w7 ⟨rfl, hb7⟩
    go_wp2
    go_ret
    exact ⟨rfl, hb06.trans (hb7.mono hb06.size)⟩
end Go.Proofs.Ytiebbbdkdpbpaaa.octetCutDone
namespace Go.Proofs.Ytiebbbdkdpbpaaa.octetCutDone
open Go.ChangeShapes Go.WideShapes Go.ChangeAt Go.RowKit Mem oct
set_option linter.unusedVariables false
theorem own : ownKnob Try.prog.godebug = none := by kernel_rfl
theorem laidOut : laidOutB Try.prog = true := by kernel_rfl
set_option maxRecDepth 100000 in
theorem lifted (os : Os) (started : os.Started) (H : Type) (enc : TypeId × Value → H) :
    ReturnsInHanded {} Try.checked os 10 .any (Rows.octetCutSpec.pre6 enc Try.prog Try.f10 Rows.octetCutRow.domain false) (Rows.octetCutSpec.post enc Try.prog Try.f10 false true false false) := by
  refine returnsInHanded_of_change (C := Try.checked) own started (by kernel_rfl) Try.func10
    (ChangeSpec.witness6 (enc := enc) (C := Try.checked) false ⟨#[], #[.int .i64 0, .slice none 0 0, .int .i64 0], []⟩ 8 (by kernel_rfl) (by kernel_rfl) (by kernel_rfl) (by kernel_rfl)) ?_
  intro W base args ds gs before hval0 hW hcnd _
  have hval : ∀ (j : Nat) t v, Try.f10.params[j]? = some t → args[j]? = some v → Value.okWide Try.prog W .any base t v := hval0
  have hW' := hW
  obtain ⟨p, q, hA0, hV, rfl, hfz, hnd⟩ := hW
  have hA : DataW.TrodAll enc Try.prog W 0 (fun _ => true) true Try.f10.params.toList args.toList ds p := hA0
  rw [Try.params10] at hA hval
  obtain ⟨v0, vs0, d0, ds0, p0, q0, hargs, rfl, rfl, h0, r0⟩ := trodAll_cons hA
  obtain ⟨v1, vs1, d1, ds1, p1, q1, rfl, rfl, rfl, h1, r1⟩ := trodAll_cons r0
  obtain ⟨v2, vs2, d2, ds2, p2, q2, rfl, rfl, rfl, h2, r2⟩ := trodAll_cons r1
  obtain ⟨rfl, rfl, rfl⟩ := trodAll_nil r2
  obtain rfl : args = #[v0, v1, v2] := by cases args; simp_all
  obtain ⟨rfl, rfl⟩ := trodVars_none hV
  obtain ⟨a0, rfl, rfl, rfl, w0⟩ := open_int Try.underlying3 (hval 0 3 v0 rfl rfl) h0
  obtain ⟨a1, n1, c1, rfl⟩ := okWide_slice Try.underlying22 (hval 1 22 v1 rfl rfl)
  have k1 := h1
  have lt1 : ∀ x ∈ p1, x.block < W.heap.size := by obtain ⟨m, hm⟩ := k1; exact DataW.trod_lt m _ _ _ hm
  obtain ⟨l1, w1, m1, b1⟩ : ∃ l : List UInt8, Rd W W.heap.size a1 n1 (bv l) ∧ n1 ≤ c1 ∧ n1 ≤ 9223372036854775807 := by
    obtain ⟨fuel, hf⟩ := h1
    rcases open_ints Try.underlying22 Try.underlying5 (by kernel_rfl) hf with ⟨hcs, _⟩ | ⟨x, l, c, zs, hcs, _, hl, hm, hz, _, hcell, hwz⟩
    · simp [Value.cells] at hcs
      obtain ⟨rfl, rfl, rfl⟩ := hcs
      exact ⟨[], Rd.nil _ _ _, Nat.le_refl _, by omega⟩
    · simp [Value.cells] at hcs
      obtain ⟨rfl, rfl, rfl⟩ := hcs
      unfold maxLen at hm
      obtain ⟨l, hl2⟩ := rd_bytes hl (by simpa using hz) hcell hwz
      exact ⟨l, hl2, hl, by omega⟩
  obtain ⟨a2, rfl, rfl, rfl, w2⟩ := open_int Try.underlying3 (hval 2 3 v2 rfl rfl) h2
  clear hA0 hval0
  refine (walk a0 a1 n1 c1 l1 a2 W w0 w1 m1 b1 w2).mono fun e W' ⟨he, bel⟩ => ?_
  subst he
  exact ⟨_, rfl, _, _, _, [], _, [], hW', trodAll_mk1 (shut_bool Try.underlying4 _), (trodAll_cons_mk (shut_int Try.underlying3 w0) (trodAll_cons_mk (Below.trod laidOut (by kernel_rfl) (of_decide_eq_true (by kernel_rfl)) k1 bel lt1) (trodAll_cons_mk (shut_int Try.underlying3 w2) trodAll_mk0))), rfl, bel.frame _, fun h => by cases h⟩

theorem over : Rows.octetCutRow.holds Try.pinned (OpenSpec.ofChange Rows.octetCutSpec) :=
  OpenClaim.holds_of_wide 10 Try.f10 rfl rfl rfl rfl rfl rfl rfl ⟨rfl, rfl, rfl, rfl, rfl⟩ rfl rfl rfl rfl rfl (by kernel_rfl) Try.func10 (by kernel_rfl)
    (of_decide_eq_true (by kernel_rfl)) (by unfold Func.isWrapper; first | (rw [if_pos (by decide +kernel)]; kernel_rfl) | (rw [if_neg (by decide +kernel)]; exact ⟨rfl, rfl⟩))
    (fun os started H enc _ => lifted os started H enc)
/-- the given statement -/
theorem proved : Rows.OctetCutSaid := over
#print axioms proved
end Go.Proofs.Ytiebbbdkdpbpaaa.octetCutDone
