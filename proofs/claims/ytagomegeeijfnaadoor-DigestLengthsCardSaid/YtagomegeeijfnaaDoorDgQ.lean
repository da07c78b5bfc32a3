/- The document's above. -/
import Derived.Test.YtagomegeeijfnaaDoorDgP
namespace Go.Proofs.YtagomegeeijfnaaDoor.dg
open Go.RowKit Mem DM
set_option linter.unusedVariables false
theorem vN_more (l : List Nat) : ∀ d, vN (dig l) (l.length + d) = vN (dig l) l.length
  | 0 => rfl
  | d + 1 => by
    show vN (dig l) (l.length + d) + dig l (l.length + d) * 65536 ^ (l.length + d) = _
    rw [vN_more l d, dig_no (by omega), Nat.zero_mul, Nat.add_zero]
theorem vN_shift (k y : Nat) : vN (dig (List.replicate k 0 ++ [y])) (k + 1) = y * 65536 ^ k := by
  have e : dig (List.replicate k 0 ++ [y]) k = y := by
    unfold dig
    rw [List.getD_eq_getElem?_getD, List.getElem?_append_right (by simp)]
    simp
  show vN (dig (List.replicate k 0 ++ [y])) k + dig (List.replicate k 0 ++ [y]) k * 65536 ^ k = _
  rw [e, vN_congr _ (dig (List.replicate k 0)) k (fun q hq => by
    unfold dig
    rw [List.getD_eq_getElem?_getD, List.getD_eq_getElem?_getD, List.getElem?_append_left (by simpa using hq)]), vN_zero]
  omega
set_option maxRecDepth 100000 in
set_option maxHeartbeats 2000000 in
theorem above_any (z y k : Nat) (w : World) (hz : z < 281474976710656) (hy : y < 65536) (hk : k ≤ 200) :
    Calls Tryd.prog 26 #[.int .i64 z, .int .i64 y, .int .i64 k] w fun e w' => e = .returned (.bool (decide (y * 65536 ^ (2 * k) < z ^ k))) ∧ Below w.heap.size w w' := by
  obtain ⟨W, hW⟩ : ∃ W, W = w.alloc (.cells #[.int .i64 1] 3) := ⟨_, rfl⟩
  have ho0 : Ow W w.heap.size 3 (some ⟨w.heap.size, 0, none⟩) 1 1 (nv [1]) := by rw [hW]; exact Ow.lit1 w _ _ (Nat.le_refl _)
  have hb0 : Below w.heap.size w W := by rw [hW]; exact (Below.refl _ _).alloc (Nat.le_refl _) _
  have HW := Lib.hid hW
  have HO := Lib.hid (And.intro ho0 hb0)
  obtain ⟨ans, hans⟩ : ∃ b, decide (y * 65536 ^ (2 * k) < z ^ k) = b := ⟨_, rfl⟩
  have HA := Lib.hid hans
  rw [hans]
  clear hW ho0 hb0 hans
  go_enter Tryd.func26, Tryd.ntmps26
  go_wp2_with fail
  rw [← HW.out]
  go_loopw [7, 11] (fun v q wr => ∃ (i N d : Nat) (A : Option Addr) (p : List Nat), v = .slice A N d ∧ q = .int .i64 (i : Int) ∧ i ≤ k ∧ N = 1 + 4 * i ∧ Ow wr w.heap.size 3 A N d (nv p) ∧ Below w.heap.size w wr ∧ Hid ((∀ x ∈ p, x < 65536) ∧ vN (dig p) (1 + 4 * i) = z ^ i)) (fun _ q _ => k - (intOf q).toNat)
  case atStart => exact ⟨0, 1, 1, _, [1], rfl, rfl, by omega, rfl, HO.out.1, HO.out.2, (⟨by simp, by simp [vN, dig]⟩ : (∀ x ∈ [1], x < 65536) ∧ vN (dig [1]) (1 + 4 * 0) = z ^ 0)⟩
  case round =>
    obtain ⟨i, N, d, A, p, rfl, rfl, hi, hN, ho, hb, HV⟩ := hrel
    subst hN
    have hws := hb.size
    by_cases hlt : i < k
    · have hii : (i : Int) < (k : Int) := by omega
      have HT := Lib.hid (times_any A (1 + 4 * i) d wr.heap.size p z wr ho.rd (Nat.le_refl _) HV.out.1 hz (by omega))
      have HB := Lib.hid hb
      clear ho hb
      go_wp2_with (go_at_call 28; refine HT.out.mono ?_; rintro e w2 ⟨A2, d2, p2, rfl, ho2, hp2, hv2, hb2⟩)
      exact ⟨⟨i + 1, _, d2, A2, p2, rfl, by go_num, by omega, by omega, ho2.base hws, HB.out.trans (hb2.mono hws), (⟨hp2, by rw [show 1 + 4 * (i + 1) = 1 + 4 * i + 4 by omega, hv2, HV.out.2, Nat.pow_succ]⟩ : (∀ x ∈ p2, x < 65536) ∧ vN (dig p2) (1 + 4 * (i + 1)) = z ^ (i + 1))⟩, by simp [intOf]; omega⟩
    · obtain rfl : i = k := by omega
      have HB := Lib.hid (And.intro ho hb)
      have hii : ¬ (i : Int) < (i : Int) := by omega
      clear ho hb
      go_wp2_with (first
        | (refine wp_make i64ty rfl (.tmp 18) (.tmp 18) rfl rfl rfl (by omega) (Int.le_refl _) (by omega) (by omega) (Nat.le_refl wr.heap.size) ?_; intro g m d3 w3 hm hd3 ho3 hb3 _ hg; subst hg; obtain rfl : m = 2 * i := (by omega))
        | (at_builtin; refine wp_app i64ty rfl (.tmp 20) (.tmp 22) rfl rfl rfl (ho3.alloc _) (Rd.one _ _ _) (by simp [Value.oneCell']) (by omega) (by omega) (by have h9 := hb3.size; simp <;> omega) ?_; intro A4 N4 c4 w5 ho4 hN4 hb4 _)
        | fail)
      have e5 : List.replicate (2 * i) (Value.int .i64 0) ++ [Value.int .i64 (y : Int)] = nv (List.replicate (2 * i) 0 ++ [y]) := by rw [nv_app]; unfold nv; rw [List.map_replicate]; rfl
      rw [e5] at ho4
      have hN5 := ho4.len
      have hl5 : (List.replicate (2 * i) 0 ++ [y]).length = 2 * i + 1 := by simp
      rw [nv_len, hl5] at hN5
      subst hN5
      have hb5 : Below wr.heap.size wr w5 := (hb3.trans ((Below.refl _ _).alloc hb3.size _)).trans hb4
      have hd5 : ∀ x ∈ List.replicate (2 * i) 0 ++ [y], x < 65536 := fun x hx => by
        rcases List.mem_append.1 hx with h | h
        · have := (List.mem_replicate.1 h).2; omega
        · have : x = y := by simpa using h
          omega
      have hmore := more_any A A4 (1 + 4 * i) d (2 * i + 1) c4 w5.heap.size p (List.replicate (2 * i) 0 ++ [y]) w5 ((HB.out.1.rd.below hb5 (Nat.le_refl _)).more hb5.size) ho4.rd HV.out.1 hd5 (by omega) (by omega)
      have hq5 : vN (dig (List.replicate (2 * i) 0 ++ [y])) (1 + 4 * i) = y * 65536 ^ (2 * i) := by
        have h9 := vN_more (List.replicate (2 * i) 0 ++ [y]) (2 * i)
        rw [hl5, vN_shift, show 2 * i + 1 + 2 * i = 1 + 4 * i by omega] at h9
        exact h9
      rw [Nat.max_eq_left (by omega), hq5, HV.out.2, HA.out] at hmore
      have HM := Lib.hid hmore
      have HB5 := Lib.hid (HB.out.2.trans (hb5.mono hws))
      clear hmore hq5 hd5 hb5 e5 ho4 hb4 hb3
      go_wp2_with (go_at_call 29; refine HM.out.mono ?_; rintro e w9 ⟨rfl, rfl⟩)
      go_ret
      exact ⟨rfl, HB5.out⟩
end Go.Proofs.YtagomegeeijfnaaDoor.dg
