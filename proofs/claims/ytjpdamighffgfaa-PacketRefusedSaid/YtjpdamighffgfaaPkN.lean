/- The examples of layer 4's laws come out true. -/
import Derived.Test.YtjpdamighffgfaaPkM
import Derived.Test.YtjpdamighffgfaaPkD
namespace Go.Proofs.Ytjpdamighffgfaa.pk
open Go.RowKit Mem SM lib sum PM
set_option linter.unusedVariables false
def oneP : Pk := ⟨1, 2, 1000, 80, 5, 0, 1, 9, 0, 0, []⟩
theorem one_ok : okP oneP := by decide
theorem one_u32 : u32P oneP := by unfold u32P oneP; decide
theorem one_any (w : World) : Calls Try.prog 31 #[] w fun e w' => e = .returned (pkV oneP none 0 0) ∧ Below w.heap.size w w' := by
  go_enter Try.func31, Try.ntmps31
  go_wp2
  refine bodyPost_ret (v := .agg #[.int .i64 1, .int .i64 2, .int .i64 1000, .int .i64 80, .int .u32 5, .int .u32 0, .int .i64 1, .int .i64 9, .int .i64 0, .int .i64 0, .slice none 0 0]) (by simp [results, Try.results31, go_sem]) rfl ⟨rfl, ?_⟩
  exact (Below.refl _ _).alloc (Nat.le_refl _) _
theorem one_len : (putB oneP).length = 22 := by rw [putB_len]; rfl
theorem one_first : (putB oneP).getD 0 0 = 70 := by
  obtain ⟨a0, a1, c0, c1, d0, d1, d2, d3, e0, e1, e2, e3, f0, f1, g0, g1, _, _, _, _, _, _, h⟩ := put_lit oneP
  rw [h]; rfl
theorem one_err : errOf (putB oneP) = 0 ∧ pkOf (putB oneP) = oneP := ⟨(err_put oneP one_ok one_u32).1, pk_put oneP one_ok one_u32⟩
theorem one_fl : fl oneP.flags 3 = false ∧ fl oneP.flags 1 = false ∧ fl oneP.flags 0 = true ∧ fl oneP.flags 2 = false := by decide
theorem one_refuse : refuseP oneP = ⟨2, 1, 80, 1000, 0, 6, 10, 0, 0, 0, []⟩ := by
  unfold refuseP refP takes
  rw [one_fl.1, one_fl.2.1, one_fl.2.2.1, one_fl.2.2.2]
  rfl
theorem none_chk : chk Pk.none = 40 := by decide
set_option maxRecDepth 50000 in
set_option maxHeartbeats 16000000 in
theorem awake_any (w : World) : Calls Try.prog 13 #[] w fun e w' => e = .returned (.bool true) ∧ Below w.heap.size w w' := by
  have hput := fun w => put_any oneP none 0 0 0 w (Rd.nil _ _ _) (Nat.zero_le _) (Nat.le_refl _) (by omega) one_u32
  unfold PutPost at hput
  rw [chk_ok one_ok, show putR oneP = putB oneP from if_pos one_ok] at hput
  have HPUT := Lib.hid hput
  have href := fun w => refuse_any oneP none 0 0 w rfl (by omega) one_u32
  unfold RefPost at href
  rw [one_refuse, one_fl.1] at href
  have HREF := Lib.hid href
  clear hput href
  go_enter Try.func13, Try.ntmps13
  go_wp2_with fail
  refine (one_any _).mono ?_
  rintro e w1 ⟨rfl, hb1⟩
  go_wp2_with fail
  refine (HPUT.out w1).mono ?_
  rintro e w2 ⟨A2, N2, C2, rfl, ho2, hb2⟩
  have hN2 : N2 = 22 := by have := ho2.len; rw [bv_len, one_len] at this; exact this.symm
  subst hN2
  have hget := get_any A2 22 C2 _ (putB oneP) w2 ho2.rd (Nat.le_refl _) ho2.cap.1 (by omega)
  unfold GetPost at hget
  rw [one_err.1, one_err.2] at hget
  have HGET := Lib.hid hget
  clear hget
  go_wp2_with fail
  refine HGET.out.mono ?_
  rintro e w3 ⟨A3, N3, C3, rfl, ho3, hb3⟩
  have hN3 : N3 = 0 := by have := ho3.len; rw [bv_len] at this; exact this.symm
  subst hN3
  obtain ⟨w4, hw4⟩ : ∃ w4, w4 = w3.alloc (.cells #[.int .i64 1, .int .i64 2, .int .i64 1000, .int .i64 80, .int .u32 5, .int .u32 0, .int .i64 1, .int .i64 9, .int .i64 0, .int .i64 0, .slice A3 0 C3] 25) := ⟨_, rfl⟩
  obtain ⟨g3, hg3⟩ : ∃ g3, g3 = w3.heap.size := ⟨_, rfl⟩
  have hc4 : w4.cell? ⟨g3, 0, none⟩ = some (.int .i64 1) ∧ w4.cell? ⟨g3, 1, none⟩ = some (.int .i64 2) ∧ w4.cell? ⟨g3, 2, none⟩ = some (.int .i64 1000) ∧ w4.cell? ⟨g3, 3, none⟩ = some (.int .i64 80) ∧ w4.cell? ⟨g3, 4, none⟩ = some (.int .u32 5) ∧ w4.cell? ⟨g3, 5, none⟩ = some (.int .u32 0) ∧ w4.cell? ⟨g3, 6, none⟩ = some (.int .i64 1) ∧ w4.cell? ⟨g3, 7, none⟩ = some (.int .i64 9) ∧ w4.cell? ⟨g3, 8, none⟩ = some (.int .i64 0) ∧ w4.cell? ⟨g3, 9, none⟩ = some (.int .i64 0) ∧ w4.cell? ⟨g3, 10, none⟩ = some (.slice A3 0 C3) := by
    rw [hw4, hg3]
    refine ⟨?_, ?_, ?_, ?_, ?_, ?_, ?_, ?_, ?_, ?_, ?_⟩ <;> simp
  have hs4 : g3 < w4.heap.size := by rw [hw4, hg3]; simp
  have hb34 : Below w3.heap.size w3 w4 := by rw [hw4]; exact (Below.refl _ _).alloc (Nat.le_refl _) _
  have HW4 := Lib.hid hw4
  have HG3 := Lib.hid hg3
  clear hw4 hg3
  obtain ⟨gb, hA2, _, hgb2⟩ := ho2.at0 (by omega)
  subst hA2
  have hcb : w2.cell? ⟨gb, 0, none⟩ = some (.int .u8 70) := by
    have := rd_cell ho2.rd 0 (by omega)
    rw [one_first] at this
    simpa using this
  have hb24 : Below w2.heap.size w2 w4 := hb3.trans (hb34.mono hb3.size)
  have hcb4 : w4.cell? ⟨gb, 0, none⟩ = some (.int .u8 70) := (hb24.cell (p := ⟨gb, 0, none⟩) hgb2).trans hcb
  have hgb4 : gb < w4.heap.size := Nat.lt_of_lt_of_le hgb2 hb24.size
  have hb04 : Below w.heap.size w w4 := hb1.trans ((hb2.mono hb1.size).trans (hb24.mono (Nat.le_trans hb1.size hb2.size)))
  clear hcb hb24 hb34 ho2 ho3 HGET HPUT
  unfold pkV oneP
  go_upto_region 3 with fail
  rw [← HW4.out, ← HG3.out]
  go_wp2_with fail
  refine (one_any _).mono ?_
  rintro e w5 ⟨rfl, hb5⟩
  go_wp2_with fail
  refine (HREF.out w5).mono ?_
  rintro e w6 ⟨rfl, hb6⟩
  unfold pkV
  have hb46 : Below w4.heap.size w4 w6 := hb5.trans (hb6.mono hb5.size)
  obtain ⟨w7, hw7⟩ : ∃ w7, w7 = w6.alloc (.cells #[.int .i64 2, .int .i64 1, .int .i64 80, .int .i64 1000, .int .u32 0, .int .u32 6, .int .i64 10, .int .i64 0, .int .i64 0, .int .i64 0, .slice none 0 0] 25) := ⟨_, rfl⟩
  obtain ⟨g6, hg6⟩ : ∃ g6, g6 = w6.heap.size := ⟨_, rfl⟩
  have hc7 : w7.cell? ⟨g6, 5, none⟩ = some (.int .u32 6) := by rw [hw7, hg6]; simp
  have hs7 : g6 < w7.heap.size := by rw [hw7, hg6]; simp
  have hb47 : Below w4.heap.size w4 w7 := by rw [hw7]; exact hb46.alloc hb46.size _
  have hz47 : w4.heap.size ≤ w7.heap.size := hb47.size
  have hd : ∀ w', Below w7.heap.size w7 w' → w'.cell? ⟨g3, 0, none⟩ = some (.int .i64 1) ∧ w'.cell? ⟨g3, 1, none⟩ = some (.int .i64 2) ∧ w'.cell? ⟨g3, 2, none⟩ = some (.int .i64 1000) ∧ w'.cell? ⟨g3, 3, none⟩ = some (.int .i64 80) ∧ w'.cell? ⟨g3, 4, none⟩ = some (.int .u32 5) ∧ w'.cell? ⟨g3, 5, none⟩ = some (.int .u32 0) ∧ w'.cell? ⟨g3, 6, none⟩ = some (.int .i64 1) ∧ w'.cell? ⟨g3, 7, none⟩ = some (.int .i64 9) ∧ w'.cell? ⟨g3, 8, none⟩ = some (.int .i64 0) ∧ w'.cell? ⟨g3, 9, none⟩ = some (.int .i64 0) ∧ w'.cell? ⟨g3, 10, none⟩ = some (.slice A3 0 C3) ∧ w'.cell? ⟨g6, 5, none⟩ = some (.int .u32 6) ∧ w'.cell? ⟨gb, 0, none⟩ = some (.int .u8 70) ∧ Below w7.heap.size w7 w' := fun w' hb =>
    ⟨((hb.cell (p := ⟨g3, 0, none⟩) (Nat.lt_of_lt_of_le hs4 hz47)).trans (hb47.cell (p := ⟨g3, 0, none⟩) hs4)).trans hc4.1, ((hb.cell (p := ⟨g3, 1, none⟩) (Nat.lt_of_lt_of_le hs4 hz47)).trans (hb47.cell (p := ⟨g3, 1, none⟩) hs4)).trans hc4.2.1, ((hb.cell (p := ⟨g3, 2, none⟩) (Nat.lt_of_lt_of_le hs4 hz47)).trans (hb47.cell (p := ⟨g3, 2, none⟩) hs4)).trans hc4.2.2.1, ((hb.cell (p := ⟨g3, 3, none⟩) (Nat.lt_of_lt_of_le hs4 hz47)).trans (hb47.cell (p := ⟨g3, 3, none⟩) hs4)).trans hc4.2.2.2.1, ((hb.cell (p := ⟨g3, 4, none⟩) (Nat.lt_of_lt_of_le hs4 hz47)).trans (hb47.cell (p := ⟨g3, 4, none⟩) hs4)).trans hc4.2.2.2.2.1, ((hb.cell (p := ⟨g3, 5, none⟩) (Nat.lt_of_lt_of_le hs4 hz47)).trans (hb47.cell (p := ⟨g3, 5, none⟩) hs4)).trans hc4.2.2.2.2.2.1, ((hb.cell (p := ⟨g3, 6, none⟩) (Nat.lt_of_lt_of_le hs4 hz47)).trans (hb47.cell (p := ⟨g3, 6, none⟩) hs4)).trans hc4.2.2.2.2.2.2.1, ((hb.cell (p := ⟨g3, 7, none⟩) (Nat.lt_of_lt_of_le hs4 hz47)).trans (hb47.cell (p := ⟨g3, 7, none⟩) hs4)).trans hc4.2.2.2.2.2.2.2.1, ((hb.cell (p := ⟨g3, 8, none⟩) (Nat.lt_of_lt_of_le hs4 hz47)).trans (hb47.cell (p := ⟨g3, 8, none⟩) hs4)).trans hc4.2.2.2.2.2.2.2.2.1, ((hb.cell (p := ⟨g3, 9, none⟩) (Nat.lt_of_lt_of_le hs4 hz47)).trans (hb47.cell (p := ⟨g3, 9, none⟩) hs4)).trans hc4.2.2.2.2.2.2.2.2.2.1, ((hb.cell (p := ⟨g3, 10, none⟩) (Nat.lt_of_lt_of_le hs4 hz47)).trans (hb47.cell (p := ⟨g3, 10, none⟩) hs4)).trans hc4.2.2.2.2.2.2.2.2.2.2, (hb.cell (p := ⟨g6, 5, none⟩) hs7).trans hc7, ((hb.cell (p := ⟨gb, 0, none⟩) (Nat.lt_of_lt_of_le hgb4 hz47)).trans (hb47.cell (p := ⟨gb, 0, none⟩) hgb4)).trans hcb4, hb⟩
  have HD := Lib.hid hd
  have HW7 := Lib.hid hw7
  have HG6 := Lib.hid hg6
  have k0 : Below w7.heap.size w7 w7.drew := below_drew (Below.refl _ _)
  have hck := check_any Pk.none none 0 0
  rw [none_chk] at hck
  have HCK := Lib.hid hck
  have hsm := fun w => same_any oneP oneP A3 none 0 C3 0 0 0 0 w (Rd.nil _ _ _) (Rd.nil _ _ _) (Nat.zero_le _) (Nat.zero_le _)
  rw [decide_eq_true rfl] at hsm
  have HSM := Lib.hid hsm
  clear hd hw7 hg6 hck hc4 hc7 hcb4 hsm
  go_upto_region 4 with fail
  rw [← HW7.out, ← HG6.out]
  go_region_held3 (fun w' => w'.cell? ⟨g3, 0, none⟩ = some (.int .i64 1) ∧ w'.cell? ⟨g3, 1, none⟩ = some (.int .i64 2) ∧ w'.cell? ⟨g3, 2, none⟩ = some (.int .i64 1000) ∧ w'.cell? ⟨g3, 3, none⟩ = some (.int .i64 80) ∧ w'.cell? ⟨g3, 4, none⟩ = some (.int .u32 5) ∧ w'.cell? ⟨g3, 5, none⟩ = some (.int .u32 0) ∧ w'.cell? ⟨g3, 6, none⟩ = some (.int .i64 1) ∧ w'.cell? ⟨g3, 7, none⟩ = some (.int .i64 9) ∧ w'.cell? ⟨g3, 8, none⟩ = some (.int .i64 0) ∧ w'.cell? ⟨g3, 9, none⟩ = some (.int .i64 0) ∧ w'.cell? ⟨g3, 10, none⟩ = some (.slice A3 0 C3) ∧ w'.cell? ⟨g6, 5, none⟩ = some (.int .u32 6) ∧ w'.cell? ⟨gb, 0, none⟩ = some (.int .u8 70) ∧ Below w7.heap.size w7 w')
    (first | exact HD.out _ k0 | exact HD.out _ k8 | exact HD.out _ k9 | exact HD.out _ k10 | fail)
    (first
      | (go_at_call 31; refine (one_any _).mono ?_; rintro e w8 ⟨rfl, hb8⟩; have k8 := k0.trans (hb8.mono k0.size); unfold pkV oneP)
      | (go_at_call 20; refine (HSM.out _).mono ?_; rintro e w9 ⟨rfl, hb9⟩; have k9 := k8.trans (hb9.mono k8.size))
      | (go_at_call 18; refine (HCK.out _ rfl (by omega)).mono ?_; rintro e w10 ⟨rfl, hb10⟩; have k10 := k9.trans (hb10.mono k9.size))
      | fail)
  all_goals
    go_wp2_with fail
    go_ret
    exact ⟨rfl, hb04.trans ((hb47.mono hb04.size).trans (k10.mono (Nat.le_trans hb04.size hz47)))⟩
end Go.Proofs.Ytjpdamighffgfaa.pk
