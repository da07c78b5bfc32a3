/- OctetBack: for every input the law answers true and leaves its arguments as they were. -/
import Derived.Test.YtiebbbdkdpbpaaaRows
import Derived.Test.YtiebbbdkdpbpaaaOctR
import Derived.Test.YtiebbbdkdpbpaaaOctAwake
import Derived.ProofKit
import Derived.OpenShut
import Derived.ShutString
import Derived.ChangeOld
namespace Go.Proofs.Ytiebbbdkdpbpaaa.octetBackDone
open Go.RowKit Mem OM oct
/-- what is read of a number, a text and a flag that were put one behind the other -/
theorem back_num (u : Nat) (r : List UInt8) (hu : u ≤ 9223372036854775807) : lk (numB u ++ r) = (u, fol u + 1, 0) ∧ (numB u ++ r).drop (fol u + 1) = r :=
  ⟨look_num u r hu, by rw [← numB_len, List.drop_left]⟩
theorem back_text (s r : List UInt8) (n : Nat) (hn : s.length = n) (hs : n ≤ 9223372036854775807) : textR (numB n ++ (s ++ r)) (n : Int) = (s, fol n + 1 + n, 0) ∧ (numB n ++ (s ++ r)).drop (fol n + 1 + n) = r := by
  subst hn
  refine ⟨?_, ?_⟩
  · unfold textR
    rw [look_num _ _ hs, if_pos rfl, if_neg (by simp only; omega), if_neg (by simp [numB_len])]
    simp only
    rw [← numB_len, List.drop_left, List.take_left]
  · rw [← List.drop_drop, ← numB_len, List.drop_left, List.drop_left]
def flagN (y : Bool) : Nat := if y then 1 else 0
theorem back_flag (y : Bool) (r : List UInt8) : flagR (numB (flagN y) ++ r) = (y, fol (flagN y) + 1, 0) ∧ (numB (flagN y) ++ r).drop (fol (flagN y) + 1) = r := by
  have h1 : flagN y ≤ 1 := by cases y <;> decide
  refine ⟨?_, by rw [← numB_len, List.drop_left]⟩
  unfold flagR
  rw [look_num _ _ (by omega), if_pos rfl, if_neg (by simp only; omega)]
  cases y <;> rfl
set_option maxRecDepth 20000 in
set_option maxHeartbeats 8000000 in
theorem walk (x : Int) (A : Option Addr) (n c : Nat) (s : List UInt8) (y : Bool) (A2 : Option Addr) (m d : Nat) (r : List UInt8) (w : World) (hx : (Lit.int .i64 x).wf = true) (h : Rd w w.heap.size A n (bv s)) (_hc : n ≤ c) (hn : n ≤ 9223372036854775807)
    (h2 : Rd w w.heap.size A2 m (bv r)) (_hd : m ≤ d) (hm : m ≤ 9223372036854775807) :
    Calls Try.prog 7 #[.int .i64 x, .slice A n c, .bool y, .slice A2 m d] w fun e w' => e = .returned (.bool true) ∧ Below w.heap.size w w' := by
  obtain ⟨x0, x1⟩ := int_wf hx
  have X0 := Lib.hid x0
  have X1 := Lib.hid x1
  have hlen : s.length = n := by rw [← bv_len, h.len]
  have hlen2 : r.length = m := by rw [← bv_len, h2.len]
  have HL := Lib.hid hlen
  have HL2 := Lib.hid hlen2
  clear hx x0 x1 hlen hlen2
  by_cases hbig : 65536 < n
  · go_enter Try.func7, Try.ntmps7
    go_wp2_with fail
    refine (awake_any _).mono ?_
    rintro e w1 ⟨rfl, hb1⟩
    go_wp2
    go_ret
    exact ⟨rfl, hb1⟩
  by_cases hbig2 : 65536 < m
  · go_enter Try.func7, Try.ntmps7
    go_wp2_with fail
    refine (awake_any _).mono ?_
    rintro e w1 ⟨rfl, hb1⟩
    go_wp2
    go_ret
    exact ⟨rfl, hb1⟩
  obtain ⟨u, hu⟩ : ∃ u, u = x.toNat := ⟨_, rfl⟩
  have hu1 : u ≤ 9223372036854775807 := by have := X1.out; omega
  have hum : max x 0 = (u : Int) := by omega
  have HU := Lib.hid hu
  clear hu
  go_enter Try.func7, Try.ntmps7
  go_wp2_with fail
  refine (number_any none 0 0 0 x [] _ (Rd.nil _ _ _) (by omega) (by omega) X0.out X1.out).mono ?_
  rintro e w1 ⟨A3, N3, c3, rfl, ho3, hb1⟩
  have hz1 := hb1.size
  have hN3 : N3 ≤ 9 := by have := ho3.len; rw [bv_len, List.nil_append, numB_len] at this; have := fol_le x.toNat; omega
  rw [List.nil_append, ← HU.out] at ho3
  go_wp2_with fail
  refine (text_any A3 A N3 c3 n c _ _ s _ ho3.rd ((h.below hb1 (Nat.le_refl _)).more hz1) (Nat.le_refl _) (by omega) (by omega)).mono ?_
  rintro e w2 ⟨A4, N4, c4, rfl, ho4, hb2⟩
  have hz2 := hb2.size
  have hN4 : N4 ≤ 70000 := by have := ho4.len; rw [bv_len, List.length_append, List.length_append, numB_len, numB_len] at this; have := fol_le u; have := fol_le n; have := HL.out; omega
  go_wp2_with fail
  refine (flag_any A4 N4 c4 _ y _ _ ho4.rd (Nat.le_refl _) (by omega)).mono ?_
  rintro e w3 ⟨A5, N5, c5, rfl, ho5, hb3⟩
  have hz3 := hb3.size
  have hN5 : N5 ≤ 80000 := by have := ho5.len; rw [bv_len, List.length_append, List.length_append, List.length_append, numB_len, numB_len, numB_len] at this; have := fol_le u; have := fol_le n; have := fol_le (if y then 1 else 0); have := HL.out; omega
  have hb03 : Below w.heap.size w w3 := hb1.trans ((hb2.mono hz1).trans (hb3.mono (by omega)))
  have hrd2 := (h2.below hb03 (Nat.le_refl _)).more hb03.size
  go_wp2_with (at_builtin; refine wp_app u8ty rfl (.tmp 30) (.tmp 31) rfl rfl rfl ho5 hrd2 (bv_one r) (by omega) (by omega) hz3 ?_; intro A6 N6 c6 w4 ho6 hN6 hb4 hg4)
  rw [← bv_app] at ho6
  have hz4 := hb4.size
  have e6 : numB u ++ numB n ++ s ++ numB (if y then 1 else 0) ++ r = numB u ++ (numB n ++ (s ++ (numB (flagN y) ++ r))) := by unfold flagN; simp only [List.append_assoc]
  rw [e6] at ho6
  obtain ⟨R3, hR3⟩ : ∃ z, z = numB (flagN y) ++ r := ⟨_, rfl⟩
  obtain ⟨R2, hR2⟩ : ∃ z, z = numB n ++ (s ++ R3) := ⟨_, rfl⟩
  obtain ⟨R1, hR1⟩ : ∃ z, z = numB u ++ R2 := ⟨_, rfl⟩
  rw [← hR3, ← hR2, ← hR1] at ho6
  have hb04 : Below w.heap.size w w4 := hb03.trans (hb4.mono (by omega))
  refine (read_r _ _ _ _ _ _ ho6.rd (Nat.le_refl _) (by omega)).mono ?_
  rintro e w5 ⟨b, rfl, hlt, hr5, hb5⟩
  have hz5 := hb5.size
  go_wp2_with fail
  refine (number_r b _ _ hr5).mono ?_
  rintro e w6 ⟨rfl, hr6, hk6⟩
  have q1 := back_num u R2 hu1
  rw [← hR1] at q1
  rw [q1.1] at hr6 ⊢
  simp only at hr6 ⊢
  rw [q1.2] at hr6
  have hz6 := hk6.size
  go_wp2_with fail
  refine (text_r b _ (n : Int) _ hr6).mono ?_
  rintro e w7 ⟨A7, N7, c7, rfl, ho7, hr7, hk7⟩
  have q2 := back_text s R3 n HL.out (by omega)
  rw [← hR2] at q2
  rw [q2.1] at ho7 hr7 ⊢
  simp only at ho7 hr7 ⊢
  rw [q2.2] at hr7
  have hz7 := hk7.size
  go_wp2_with fail
  refine (flag_r b _ _ hr7).mono ?_
  rintro e w8 ⟨rfl, hr8, hk8⟩
  have q3 := back_flag y r
  rw [← hR3] at q3
  rw [q3.1] at hr8 ⊢
  simp only at hr8 ⊢
  rw [q3.2] at hr8
  have hz8 := hk8.size
  have hb48 : Below w4.heap.size w4 w8 := hk8.below (hk7.below (hk6.below hb5 hz5 hlt) (by omega) hlt) (by omega) hlt
  have hb08 : Below w.heap.size w w8 := hb04.trans (hb48.mono (by omega))
  have ho8 := hk8.ow ho7 (by have := hr6.lt; omega)
  have HE := Lib.hid (equal_any A7 A N7 c7 n c _ s s w8 ho8.rd ((h.below hb08 (Nat.le_refl _)).more hb08.size))
  have HLF := Lib.hid (left_any b r w8 hr8)
  have hen := end_any b r w8 hr8
  have hrl : (r.length : Int) = (m : Int) := by rw [HL2.out]
  rw [hrl] at HLF
  rw [HL2.out] at hen
  rw [decide_eq_true rfl] at HE
  clear hrl q1 q2 q3 hR1 hR2 hR3 e6
  by_cases hm0 : m = 0
  · rw [if_pos hm0] at hen
    have HEN := Lib.hid hen
    have hmi : ((m : Nat) : Int) = 0 := by omega
    clear hen
    go_wp2_with (first
      | (go_at_call 16; refine HE.out.mono ?_; rintro e w9 ⟨rfl, rfl⟩)
      | (go_at_call 38; refine HLF.out.mono ?_; rintro e w9 ⟨rfl, rfl⟩)
      | (go_at_call 36; refine HEN.out.mono ?_; rintro e w9 ⟨rfl, rfl⟩)
      | (go_at_call 13; refine (awake_any _).mono ?_; rintro e w9 ⟨rfl, hb9⟩)
      | fail)
    go_ret
    exact ⟨rfl, hb08.trans (hb9.mono hb08.size)⟩
  · rw [if_neg hm0] at hen
    have HEN := Lib.hid hen
    have hmi : ¬ ((m : Nat) : Int) = 0 := by omega
    have hmb : (((m : Nat) : Int) == 0) = false := by simpa using hmi
    clear hen
    go_wp2_with (first
      | (go_at_call 16; refine HE.out.mono ?_; rintro e w9 ⟨rfl, rfl⟩)
      | (go_at_call 38; refine HLF.out.mono ?_; rintro e w9 ⟨rfl, rfl⟩)
      | (go_at_call 36; refine HEN.out.mono ?_; rintro e w9 ⟨rfl, rfl⟩)
      | (go_at_call 13; refine (awake_any _).mono ?_; rintro e w9 ⟨rfl, hb9⟩)
      | fail)
    go_ret
    exact ⟨rfl, hb08.trans (hb9.mono hb08.size)⟩
end Go.Proofs.Ytiebbbdkdpbpaaa.octetBackDone
namespace Go.Proofs.Ytiebbbdkdpbpaaa.octetBackDone
open Go.ChangeShapes Go.WideShapes Go.ChangeAt Go.RowKit Mem oct
set_option linter.unusedVariables false
theorem own : ownKnob Try.prog.godebug = none := by kernel_rfl
theorem laidOut : laidOutB Try.prog = true := by kernel_rfl
set_option maxRecDepth 100000 in
theorem lifted (os : Os) (started : os.Started) (H : Type) (enc : TypeId × Value → H) :
    ReturnsInHanded {} Try.checked os 7 .any (Rows.octetBackSpec.pre6 enc Try.prog Try.f7 Rows.octetBackRow.domain false) (Rows.octetBackSpec.post enc Try.prog Try.f7 false true false false) := by
  refine returnsInHanded_of_change (C := Try.checked) own started (by kernel_rfl) Try.func7
    (ChangeSpec.witness6 (enc := enc) (C := Try.checked) false ⟨#[], #[.int .i64 0, .slice none 0 0, .bool false, .slice none 0 0], []⟩ 8 (by kernel_rfl) (by kernel_rfl) (by kernel_rfl) (by kernel_rfl)) ?_
  intro W base args ds gs before hval0 hW hcnd _
  have hval : ∀ (j : Nat) t v, Try.f7.params[j]? = some t → args[j]? = some v → Value.okWide Try.prog W .any base t v := hval0
  have hW' := hW
  obtain ⟨p, q, hA0, hV, rfl, hfz, hnd⟩ := hW
  have hA : DataW.TrodAll enc Try.prog W 0 (fun _ => true) true Try.f7.params.toList args.toList ds p := hA0
  rw [Try.params7] at hA hval
  obtain ⟨v0, vs0, d0, ds0, p0, q0, hargs, rfl, rfl, h0, r0⟩ := trodAll_cons hA
  obtain ⟨v1, vs1, d1, ds1, p1, q1, rfl, rfl, rfl, h1, r1⟩ := trodAll_cons r0
  obtain ⟨v2, vs2, d2, ds2, p2, q2, rfl, rfl, rfl, h2, r2⟩ := trodAll_cons r1
  obtain ⟨v3, vs3, d3, ds3, p3, q3, rfl, rfl, rfl, h3, r3⟩ := trodAll_cons r2
  obtain ⟨rfl, rfl, rfl⟩ := trodAll_nil r3
  obtain rfl : args = #[v0, v1, v2, v3] := by cases args; simp_all
  obtain ⟨rfl, rfl⟩ := trodVars_none hV
  obtain ⟨a0, rfl, rfl, rfl, w0⟩ := open_int Try.underlying3 (hval 0 3 v0 rfl rfl) h0
  obtain ⟨a1, n1, c1, rfl⟩ := okWide_slice Try.underlying22 (hval 1 22 v1 rfl rfl)
  have k1 := h1
  have lt1 : ∀ x ∈ p1, x.block < W.heap.size := by obtain ⟨m, hm⟩ := k1; exact DataW.trod_lt m _ _ _ hm
  obtain ⟨l1, w1, m1, b1⟩ : ∃ l : List UInt8, Rd W W.heap.size a1 n1 (bv l) ∧ n1 ≤ c1 ∧ n1 ≤ 9223372036854775807 := by
    obtain ⟨fuel, hf⟩ := h1
    rcases open_ints Try.underlying22 Try.underlying5 (by kernel_rfl) hf with ⟨hcs, _⟩ | ⟨x, l, c, zs, hcs, _, hl, hm, hz, _, hcell, hwz⟩
    · simp [Value.cells] at hcs
      obtain ⟨rfl, rfl, rfl⟩ := hcs
      exact ⟨[], Rd.nil _ _ _, Nat.le_refl _, by omega⟩
    · simp [Value.cells] at hcs
      obtain ⟨rfl, rfl, rfl⟩ := hcs
      unfold maxLen at hm
      obtain ⟨l, hl2⟩ := rd_bytes hl (by simpa using hz) hcell hwz
      exact ⟨l, hl2, hl, by omega⟩
  obtain ⟨a2, rfl, rfl, rfl⟩ := open_bool Try.underlying4 (hval 2 4 v2 rfl rfl) h2
  obtain ⟨a3, n3, c3, rfl⟩ := okWide_slice Try.underlying22 (hval 3 22 v3 rfl rfl)
  have k3 := h3
  have lt3 : ∀ x ∈ p3, x.block < W.heap.size := by obtain ⟨m, hm⟩ := k3; exact DataW.trod_lt m _ _ _ hm
  obtain ⟨l3, w3, m3, b3⟩ : ∃ l : List UInt8, Rd W W.heap.size a3 n3 (bv l) ∧ n3 ≤ c3 ∧ n3 ≤ 9223372036854775807 := by
    obtain ⟨fuel, hf⟩ := h3
    rcases open_ints Try.underlying22 Try.underlying5 (by kernel_rfl) hf with ⟨hcs, _⟩ | ⟨x, l, c, zs, hcs, _, hl, hm, hz, _, hcell, hwz⟩
    · simp [Value.cells] at hcs
      obtain ⟨rfl, rfl, rfl⟩ := hcs
      exact ⟨[], Rd.nil _ _ _, Nat.le_refl _, by omega⟩
    · simp [Value.cells] at hcs
      obtain ⟨rfl, rfl, rfl⟩ := hcs
      unfold maxLen at hm
      obtain ⟨l, hl2⟩ := rd_bytes hl (by simpa using hz) hcell hwz
      exact ⟨l, hl2, hl, by omega⟩
  clear hA0 hval0
  refine (walk a0 a1 n1 c1 l1 a2 a3 n3 c3 l3 W w0 w1 m1 b1 w3 m3 b3).mono fun e W' ⟨he, bel⟩ => ?_
  subst he
  exact ⟨_, rfl, _, _, _, [], _, [], hW', trodAll_mk1 (shut_bool Try.underlying4 _), (trodAll_cons_mk (shut_int Try.underlying3 w0) (trodAll_cons_mk (Below.trod laidOut (by kernel_rfl) (of_decide_eq_true (by kernel_rfl)) k1 bel lt1) (trodAll_cons_mk (shut_bool Try.underlying4 _) (trodAll_cons_mk (Below.trod laidOut (by kernel_rfl) (of_decide_eq_true (by kernel_rfl)) k3 bel lt3) trodAll_mk0)))), rfl, bel.frame _, fun h => by cases h⟩

theorem over : Rows.octetBackRow.holds Try.pinned (OpenSpec.ofChange Rows.octetBackSpec) :=
  OpenClaim.holds_of_wide 7 Try.f7 rfl rfl rfl rfl rfl rfl rfl ⟨rfl, rfl, rfl, rfl, rfl⟩ rfl rfl rfl rfl rfl (by kernel_rfl) Try.func7 (by kernel_rfl)
    (of_decide_eq_true (by kernel_rfl)) (by unfold Func.isWrapper; first | (rw [if_pos (by decide +kernel)]; kernel_rfl) | (rw [if_neg (by decide +kernel)]; exact ⟨rfl, rfl⟩))
    (fun os started H enc _ => lifted os started H enc)
/-- the given statement -/
theorem proved : Rows.OctetBackSaid := over
#print axioms proved
end Go.Proofs.Ytiebbbdkdpbpaaa.octetBackDone
