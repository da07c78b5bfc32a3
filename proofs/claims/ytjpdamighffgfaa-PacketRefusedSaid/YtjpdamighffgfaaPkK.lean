/- Contract of packet.Get. -/
import Derived.Test.YtjpdamighffgfaaPkI
namespace Go.Proofs.Ytjpdamighffgfaa.pk
open Go.RowKit Mem SM lib sum PM
set_option linter.unusedVariables false
/-- what Get leaves -/
def GetPost (l : List UInt8) (w : World) (e : Ending) (w' : World) : Prop := ∃ A N c, e = .returned (.tuple #[pkV (pkOf l) A N c, .int .i64 (errOf l)]) ∧ Ow w' w.heap.size 5 A N c (bv (pkOf l).data) ∧ Below w.heap.size w w'
theorem chain_cells {v : World} {g : Nat} (hz : ZAt v g) (u0 u1 u2 u3 u4 u5 u6 u7 u8 u9 u10 : Value) :
    (((((((((((v.setCell ⟨g, 0, none⟩ u0).setCell ⟨g, 1, none⟩ u1).setCell ⟨g, 2, none⟩ u2).setCell ⟨g, 3, none⟩ u3).setCell ⟨g, 4, none⟩ u4).setCell ⟨g, 5, none⟩ u5).setCell ⟨g, 6, none⟩ u6).setCell ⟨g, 7, none⟩ u7).setCell ⟨g, 8, none⟩ u8).setCell ⟨g, 9, none⟩ u9).setCell ⟨g, 10, none⟩ u10).cell? ⟨g, 0, none⟩ = some u0 ∧ (((((((((((v.setCell ⟨g, 0, none⟩ u0).setCell ⟨g, 1, none⟩ u1).setCell ⟨g, 2, none⟩ u2).setCell ⟨g, 3, none⟩ u3).setCell ⟨g, 4, none⟩ u4).setCell ⟨g, 5, none⟩ u5).setCell ⟨g, 6, none⟩ u6).setCell ⟨g, 7, none⟩ u7).setCell ⟨g, 8, none⟩ u8).setCell ⟨g, 9, none⟩ u9).setCell ⟨g, 10, none⟩ u10).cell? ⟨g, 1, none⟩ = some u1 ∧ (((((((((((v.setCell ⟨g, 0, none⟩ u0).setCell ⟨g, 1, none⟩ u1).setCell ⟨g, 2, none⟩ u2).setCell ⟨g, 3, none⟩ u3).setCell ⟨g, 4, none⟩ u4).setCell ⟨g, 5, none⟩ u5).setCell ⟨g, 6, none⟩ u6).setCell ⟨g, 7, none⟩ u7).setCell ⟨g, 8, none⟩ u8).setCell ⟨g, 9, none⟩ u9).setCell ⟨g, 10, none⟩ u10).cell? ⟨g, 2, none⟩ = some u2 ∧ (((((((((((v.setCell ⟨g, 0, none⟩ u0).setCell ⟨g, 1, none⟩ u1).setCell ⟨g, 2, none⟩ u2).setCell ⟨g, 3, none⟩ u3).setCell ⟨g, 4, none⟩ u4).setCell ⟨g, 5, none⟩ u5).setCell ⟨g, 6, none⟩ u6).setCell ⟨g, 7, none⟩ u7).setCell ⟨g, 8, none⟩ u8).setCell ⟨g, 9, none⟩ u9).setCell ⟨g, 10, none⟩ u10).cell? ⟨g, 3, none⟩ = some u3 ∧ (((((((((((v.setCell ⟨g, 0, none⟩ u0).setCell ⟨g, 1, none⟩ u1).setCell ⟨g, 2, none⟩ u2).setCell ⟨g, 3, none⟩ u3).setCell ⟨g, 4, none⟩ u4).setCell ⟨g, 5, none⟩ u5).setCell ⟨g, 6, none⟩ u6).setCell ⟨g, 7, none⟩ u7).setCell ⟨g, 8, none⟩ u8).setCell ⟨g, 9, none⟩ u9).setCell ⟨g, 10, none⟩ u10).cell? ⟨g, 4, none⟩ = some u4 ∧ (((((((((((v.setCell ⟨g, 0, none⟩ u0).setCell ⟨g, 1, none⟩ u1).setCell ⟨g, 2, none⟩ u2).setCell ⟨g, 3, none⟩ u3).setCell ⟨g, 4, none⟩ u4).setCell ⟨g, 5, none⟩ u5).setCell ⟨g, 6, none⟩ u6).setCell ⟨g, 7, none⟩ u7).setCell ⟨g, 8, none⟩ u8).setCell ⟨g, 9, none⟩ u9).setCell ⟨g, 10, none⟩ u10).cell? ⟨g, 5, none⟩ = some u5 ∧ (((((((((((v.setCell ⟨g, 0, none⟩ u0).setCell ⟨g, 1, none⟩ u1).setCell ⟨g, 2, none⟩ u2).setCell ⟨g, 3, none⟩ u3).setCell ⟨g, 4, none⟩ u4).setCell ⟨g, 5, none⟩ u5).setCell ⟨g, 6, none⟩ u6).setCell ⟨g, 7, none⟩ u7).setCell ⟨g, 8, none⟩ u8).setCell ⟨g, 9, none⟩ u9).setCell ⟨g, 10, none⟩ u10).cell? ⟨g, 6, none⟩ = some u6 ∧ (((((((((((v.setCell ⟨g, 0, none⟩ u0).setCell ⟨g, 1, none⟩ u1).setCell ⟨g, 2, none⟩ u2).setCell ⟨g, 3, none⟩ u3).setCell ⟨g, 4, none⟩ u4).setCell ⟨g, 5, none⟩ u5).setCell ⟨g, 6, none⟩ u6).setCell ⟨g, 7, none⟩ u7).setCell ⟨g, 8, none⟩ u8).setCell ⟨g, 9, none⟩ u9).setCell ⟨g, 10, none⟩ u10).cell? ⟨g, 7, none⟩ = some u7 ∧ (((((((((((v.setCell ⟨g, 0, none⟩ u0).setCell ⟨g, 1, none⟩ u1).setCell ⟨g, 2, none⟩ u2).setCell ⟨g, 3, none⟩ u3).setCell ⟨g, 4, none⟩ u4).setCell ⟨g, 5, none⟩ u5).setCell ⟨g, 6, none⟩ u6).setCell ⟨g, 7, none⟩ u7).setCell ⟨g, 8, none⟩ u8).setCell ⟨g, 9, none⟩ u9).setCell ⟨g, 10, none⟩ u10).cell? ⟨g, 8, none⟩ = some u8 ∧ (((((((((((v.setCell ⟨g, 0, none⟩ u0).setCell ⟨g, 1, none⟩ u1).setCell ⟨g, 2, none⟩ u2).setCell ⟨g, 3, none⟩ u3).setCell ⟨g, 4, none⟩ u4).setCell ⟨g, 5, none⟩ u5).setCell ⟨g, 6, none⟩ u6).setCell ⟨g, 7, none⟩ u7).setCell ⟨g, 8, none⟩ u8).setCell ⟨g, 9, none⟩ u9).setCell ⟨g, 10, none⟩ u10).cell? ⟨g, 9, none⟩ = some u9 ∧ (((((((((((v.setCell ⟨g, 0, none⟩ u0).setCell ⟨g, 1, none⟩ u1).setCell ⟨g, 2, none⟩ u2).setCell ⟨g, 3, none⟩ u3).setCell ⟨g, 4, none⟩ u4).setCell ⟨g, 5, none⟩ u5).setCell ⟨g, 6, none⟩ u6).setCell ⟨g, 7, none⟩ u7).setCell ⟨g, 8, none⟩ u8).setCell ⟨g, 9, none⟩ u9).setCell ⟨g, 10, none⟩ u10).cell? ⟨g, 10, none⟩ = some u10 := by
  obtain ⟨u, hu⟩ := hz.all
  have h := (set_step (set_step (set_step (set_step (set_step (set_step (set_step (set_step (set_step (set_step (set_step hu 0 (by omega) u0) 1 (by omega) u1) 2 (by omega) u2) 3 (by omega) u3) 4 (by omega) u4) 5 (by omega) u5) 6 (by omega) u6) 7 (by omega) u7) 8 (by omega) u8) 9 (by omega) u9) 10 (by omega) u10)
  exact ⟨h 0 (by omega), h 1 (by omega), h 2 (by omega), h 3 (by omega), h 4 (by omega), h 5 (by omega), h 6 (by omega), h 7 (by omega), h 8 (by omega), h 9 (by omega), h 10 (by omega)⟩
theorem none_val : pkV Pk.none none 0 0 = .agg #[.int .i64 0, .int .i64 0, .int .i64 0, .int .i64 0, .int .u32 0, .int .u32 0, .int .i64 0, .int .i64 0, .int .i64 0, .int .i64 0, .slice none 0 0] := rfl
theorem decide_valid (l : List UInt8) : decide (inet [l] = 0 ∨ inet [l] = 65535) = decide (valid l) := rfl
set_option maxRecDepth 50000 in
set_option maxHeartbeats 16000000 in
theorem get_any (A : Option Addr) (n c B : Nat) (l : List UInt8) (w : World) (h : Rd w B A n (bv l)) (hB : B ≤ w.heap.size) (hc : n ≤ c) (hn : n ≤ 1099511627776) :
    Calls Try.prog 21 #[.slice A n c] w (GetPost l w) := by
  obtain ⟨w1, hw1⟩ : ∃ w1, w1 = w.alloc (.cells #[.int .i64 0, .int .i64 0, .int .i64 0, .int .i64 0, .int .u32 0, .int .u32 0, .int .i64 0, .int .i64 0, .int .i64 0, .int .i64 0, .slice none 0 0] 25) := ⟨_, rfl⟩
  obtain ⟨g, hg⟩ : ∃ g, g = w.heap.size := ⟨_, rfl⟩
  have hb01 : Below w.heap.size w w1 := by rw [hw1]; exact (Below.refl _ _).alloc (Nat.le_refl _) _
  have hz : ZAt w1 g := by rw [hw1, hg]; exact ZAt.new _
  have hs1 : w1.heap.size = g + 1 := by rw [hw1, hg]; simp
  have h := h.below hb01 hB
  have hB : B ≤ w1.heap.size := Nat.le_trans hB hb01.size
  have HW1 := Lib.hid hw1
  have HG := Lib.hid hg
  have HS1 := Lib.hid hs1
  have HZ := Lib.hid hz
  have hz' := hz
  obtain ⟨z0, z1, z2, z3, z4, z5, z6, z7, z8, z9, z10, y0, y1, y2, y3, y4, y5, y6, y7, y8, y9, y10⟩ := hz'
  have hl : l.length = n := by rw [← bv_len, h.len]
  have HL := Lib.hid hl
  clear hw1 hg hs1 hl
  by_cases h22 : n < 22
  · have hE := short l (by rw [HL.out]; exact h22)
    have HE := Lib.hid hE
    have hbk := hb01
    clear hE
    go_enter Try.func21, Try.ntmps21
    go_upto_region 1 with fail
    rw [← HW1.out, ← HG.out]
    go_wp2_with fail
    have hr := chain_cells hz (.int .i64 0) (.int .i64 0) (.int .i64 0) (.int .i64 0) (.int .u32 0) (.int .u32 0) (.int .i64 0) (.int .i64 0) (.int .i64 0) (.int .i64 0) (.slice none 0 0)
    obtain ⟨r0, r1, r2, r3, r4, r5, r6, r7, r8, r9, r10⟩ := hr
    refine bodyPost_ret (v := .tuple #[.agg #[.int .i64 0, .int .i64 0, .int .i64 0, .int .i64 0, .int .u32 0, .int .u32 0, .int .i64 0, .int .i64 0, .int .i64 0, .int .i64 0, .slice none 0 0], .int .i64 2]) ?_ rfl ?_
    · simp [results, Try.results21, go_sem, r0, r1, r2, r3, r4, r5, r6, r7, r8, r9, r10]
    · refine ⟨none, 0, 0, by rw [HE.out.1, HE.out.2]; rfl, ?_, ?_⟩
      · rw [HE.out.2]
        exact Ow.nil _ _ _
      · exact set11 hbk (by rw [HG.out]; exact Nat.le_refl _) _ _ _ _ _ _ _ _ _ _ _
  · obtain ⟨bb, oo, rfl, _, _⟩ := h.addr (show 0 < n by omega)
    have hda := fun w' (hb : Below w1.heap.size w1 w') => dataAt_any bb oo n c B l w' (h.below hb hB) (by omega)
    obtain ⟨at_, hat⟩ : ∃ at_ : Nat, at_ = dataAt l := ⟨_, rfl⟩
    rw [← hat] at hda
    have HDA := Lib.hid hda
    have hat22 : 22 ≤ at_ ∧ at_ ≤ 277 := by
      have := UInt8.toNat_lt (l.getD 20 0)
      rw [hat]
      unfold dataAt
      omega
    have HAT := Lib.hid hat
    clear hda hat
    go_enter Try.func21, Try.ntmps21
    go_upto_region 1 with fail
    rw [← HW1.out, ← HG.out]
    by_cases hsh : n < at_
    · have HE : Hid (errOf l = 2 ∧ pkOf l = Pk.none) := by
        have e : errOf l = 2 := by unfold errOf; rw [if_pos (by rw [HL.out, ← HAT.out]; exact hsh)]
        exact ⟨e, by unfold pkOf; rw [if_neg (by rw [e]; omega)]⟩
      go_wp2_with (go_at_call 40; refine (HDA.out _ (Below.refl _ _)).mono ?_; rintro e w' ⟨rfl, rfl⟩)
      have hr := chain_cells hz (.int .i64 0) (.int .i64 0) (.int .i64 0) (.int .i64 0) (.int .u32 0) (.int .u32 0) (.int .i64 0) (.int .i64 0) (.int .i64 0) (.int .i64 0) (.slice none 0 0)
      obtain ⟨r0, r1, r2, r3, r4, r5, r6, r7, r8, r9, r10⟩ := hr
      refine bodyPost_ret (v := .tuple #[.agg #[.int .i64 0, .int .i64 0, .int .i64 0, .int .i64 0, .int .u32 0, .int .u32 0, .int .i64 0, .int .i64 0, .int .i64 0, .int .i64 0, .slice none 0 0], .int .i64 2]) ?_ rfl ?_
      · simp [results, Try.results21, go_sem, r0, r1, r2, r3, r4, r5, r6, r7, r8, r9, r10]
      · refine ⟨none, 0, 0, by rw [HE.out.1, HE.out.2]; rfl, ?_, ?_⟩
        · rw [HE.out.2]
          exact Ow.nil _ _ _
        · exact set11 hb01 (by rw [HG.out]; exact Nat.le_refl _) _ _ _ _ _ _ _ _ _ _ _
    · obtain ⟨hpt, htot⟩ : Parts (w1.alloc (.cells #[.slice (some ⟨bb, oo, none⟩) n c] 23)) (w1.heap.size + 1) (some ⟨w1.heap.size, 0, none⟩) 1 [l] ∧ tot [l] ≤ 1099511627776 := ⟨Parts.one h hc hB _, by simp [tot]; rw [HL.out]; exact hn⟩
      have hva := valid_any (some ⟨w1.heap.size, 0, none⟩) 1 1 _ [l] _ hpt (by omega) htot
      rw [decide_valid] at hva
      have HVA := Lib.hid hva
      clear hva hpt htot
      go_upto_region 3 with (go_at_call 40; refine (HDA.out _ (Below.refl _ _)).mono ?_; rintro e w' ⟨rfl, rfl⟩)
      go_wp2_with fail
      refine HVA.out.mono ?_
      rintro e w2 ⟨rfl, q, hw2⟩
      have hb2 : Below w1.heap.size w1 w2 := by rw [hw2]; exact ⟨rfl, rfl, rfl, by simp, ((Below.refl w1.heap.size w1).alloc (Nat.le_refl _) _).block⟩
      have hgl : g < w1.heap.size := by rw [HS1.out]; omega
      have hz2 := hz.below hb2 hgl
      clear hw2 z0 z1 z2 z3 z4 z5 z6 z7 z8 z9 z10 y0 y1 y2 y3 y4 y5 y6 y7 y8 y9 y10
      have hz' := hz2
      obtain ⟨z0, z1, z2, z3, z4, z5, z6, z7, z8, z9, z10, y0, y1, y2, y3, y4, y5, y6, y7, y8, y9, y10⟩ := hz'
      have hb02 : Below w.heap.size w w2 := hb01.trans (hb2.mono hb01.size)
      by_cases hv : valid l
      · have dv : decide (valid l) = true := decide_eq_true hv
        rw [dv]
        by_cases hlo : 128 < n - at_
        · have HE : Hid (errOf l = 4 ∧ pkOf l = Pk.none) := by
            have e : errOf l = 4 := by unfold errOf; rw [if_neg (by rw [HL.out, ← HAT.out]; exact hsh), if_neg (fun h => h hv), if_pos (by rw [HL.out, ← HAT.out]; exact hlo)]
            exact ⟨e, by unfold pkOf; rw [if_neg (by rw [e]; omega)]⟩
          have dl : decide ((128 : Int) < (n : Int) - (at_ : Int)) = true := decide_eq_true (by omega)
          clear hv dv
          go_wp2_with (go_at_call 40; refine (HDA.out _ hb2).mono ?_; rintro e w' ⟨rfl, rfl⟩)
          have hr := chain_cells hz2 (.int .i64 0) (.int .i64 0) (.int .i64 0) (.int .i64 0) (.int .u32 0) (.int .u32 0) (.int .i64 0) (.int .i64 0) (.int .i64 0) (.int .i64 0) (.slice none 0 0)
          obtain ⟨r0, r1, r2, r3, r4, r5, r6, r7, r8, r9, r10⟩ := hr
          refine bodyPost_ret (v := .tuple #[.agg #[.int .i64 0, .int .i64 0, .int .i64 0, .int .i64 0, .int .u32 0, .int .u32 0, .int .i64 0, .int .i64 0, .int .i64 0, .int .i64 0, .slice none 0 0], .int .i64 4]) ?_ rfl ?_
          · simp [results, Try.results21, go_sem, r0, r1, r2, r3, r4, r5, r6, r7, r8, r9, r10]
          · refine ⟨none, 0, 0, by rw [HE.out.1, HE.out.2]; rfl, ?_, ?_⟩
            · rw [HE.out.2]
              exact Ow.nil _ _ _
            · exact set11 hb02 (by rw [HG.out]; exact Nat.le_refl _) _ _ _ _ _ _ _ _ _ _ _
        · have dl : decide ((128 : Int) < (n : Int) - (at_ : Int)) = false := decide_eq_false (by omega)
          have HV := Lib.hid hv
          clear hv dv
          have hpar := parse_any bb oo n c B l w2 (h.below hb2 hB) (Nat.le_trans hB hb2.size) hc hn (by omega) (by rw [← HAT.out]; omega)
          unfold ParsePost at hpar
          obtain ⟨p, hp⟩ : ∃ p, p = parse1 l := ⟨_, rfl⟩
          rw [← hp] at hpar
          have HPAR := Lib.hid hpar
          have HP := Lib.hid hp
          clear hpar hp
          go_upto_region 7 with (go_at_call 40; refine (HDA.out _ hb2).mono ?_; rintro e w' ⟨rfl, rfl⟩)
          go_wp2_with fail
          refine HPAR.out.mono ?_
          rintro e w3 ⟨Ap, Np, Cp, rfl, hop, hb3⟩
          unfold pkV
          go_wp2_with fail
          have hpd : p.data = l.drop (dataAt l) := by rw [HP.out]; rfl
          have hpu : u32P p := by rw [HP.out]; exact parse1_u32 l
          rw [← hpd] at hop
          have hNp : Np ≤ 1099511627776 := by
            have h1 := hop.len
            rw [bv_len, hpd, List.length_drop, HL.out] at h1
            omega
          have hcp := hop.cap.1
          have HPD := Lib.hid hpd
          clear hpd
          obtain ⟨w4, hw4⟩ : ∃ w4, w4 = w3.alloc (pkO p Ap Np Cp) := ⟨_, rfl⟩
          obtain ⟨g4, hg4⟩ : ∃ g4, g4 = w3.heap.size := ⟨_, rfl⟩
          have hpa : PkAt w4 g4 p Ap Np Cp := by rw [hw4, hg4]; exact PkAt.new _ _ _ _ _
          have hb34 : Below w3.heap.size w3 w4 := by rw [hw4]; exact (Below.refl _ _).alloc (Nat.le_refl _) _
          have hs4 : w4.heap.size = g4 + 1 := by rw [hw4, hg4]; simp
          have hrp : Rd w4 w3.heap.size Ap Np (bv p.data) := hop.rd.below hb34 (Nat.le_refl _)
          have hop4 := hop.below hb34 (Nat.le_refl _)
          have hb24 : Below w2.heap.size w2 w4 := hb3.trans (hb34.mono hb3.size)
          have hw4' : w3.alloc (.cells #[.int .i64 p.src, .int .i64 p.dst, .int .i64 p.sport, .int .i64 p.dport, .int .u32 p.seq, .int .u32 p.ack, .int .i64 p.flags, .int .i64 p.window, .int .i64 p.probe, .int .i64 p.origin, .slice Ap Np Cp] 25) = w4 := hw4.symm
          rw [hw4', ← hg4]
          have HS4 := Lib.hid hs4
          have HG4 := Lib.hid hg4
          clear hw4 hw4' hg4 hs4 z0 z1 z2 z3 z4 z5 z6 z7 z8 z9 z10 y0 y1 y2 y3 y4 y5 y6 y7 y8 y9 y10
          have hput := put_any p Ap Np Cp _ w4 hrp hb34.size hcp (by omega) hpu
          unfold PutPost at hput
          have hb14 : Below w1.heap.size w1 w4 := hb2.trans (hb24.mono hb2.size)
          by_cases hok : okP p
          · rw [chk_ok hok, show putR p = putB p from if_pos hok] at hput
            have HPUT := Lib.hid hput
            have HOK := Lib.hid hok
            clear hput hok
            refine HPUT.out.mono ?_
            rintro e w5 ⟨A5, N5, C5, rfl, ho5, hb5⟩
            have hb15 : Below w1.heap.size w1 w5 := hb14.trans (hb5.mono hb14.size)
            have hz5 := hz.below hb15 hgl
            have hb05 : Below w.heap.size w w5 := hb01.trans (hb15.mono hb01.size)
            have hz' := hz5
            obtain ⟨z0, z1, z2, z3, z4, z5, z6, z7, z8, z9, z10, y0, y1, y2, y3, y4, y5, y6, y7, y8, y9, y10⟩ := hz'
            have heq := equal_any A5 (some ⟨bb, oo, none⟩) N5 C5 n c w5.heap.size (putB p) l w5 ho5.rd ((h.below hb15 hB).more (Nat.le_trans hB hb15.size))
            by_cases hpl : putB p = l
            · have HE : Hid (errOf l = 0 ∧ pkOf l = p) := by
                have e : errOf l = 0 := by
                  unfold errOf
                  rw [if_neg (by rw [HL.out, ← HAT.out]; exact hsh), if_neg (fun h => h HV.out), if_neg (by rw [HL.out, ← HAT.out]; exact hlo), ← HP.out, if_pos ⟨HOK.out, hpl⟩]
                exact ⟨e, by unfold pkOf; rw [if_pos e]; exact HP.out.symm⟩
              rw [decide_eq_true hpl] at heq
              have HEQ := Lib.hid heq
              clear heq hpl
              obtain ⟨c0, c1, c2, c3, c4, c5, c6, c7, c8, c9, c10⟩ := hpa.below hb5 (by rw [HS4.out]; omega)
              go_wp2_with (go_at_call 17; refine HEQ.out.mono ?_; rintro e w' ⟨rfl, rfl⟩)
              have hr := chain_cells hz5 (.int .i64 p.src) (.int .i64 p.dst) (.int .i64 p.sport) (.int .i64 p.dport) (.int .u32 p.seq) (.int .u32 p.ack) (.int .i64 p.flags) (.int .i64 p.window) (.int .i64 p.probe) (.int .i64 p.origin) (.slice Ap Np Cp)
              obtain ⟨r0, r1, r2, r3, r4, r5, r6, r7, r8, r9, r10⟩ := hr
              refine bodyPost_ret (v := .tuple #[.agg #[.int .i64 p.src, .int .i64 p.dst, .int .i64 p.sport, .int .i64 p.dport, .int .u32 p.seq, .int .u32 p.ack, .int .i64 p.flags, .int .i64 p.window, .int .i64 p.probe, .int .i64 p.origin, .slice Ap Np Cp], .int .i64 0]) ?_ rfl ?_
              · simp [results, Try.results21, go_sem, r0, r1, r2, r3, r4, r5, r6, r7, r8, r9, r10]
              · have hop5 := hop4.below hb5 (Nat.le_refl _)
                have hgp : blk Ap = none ∨ blk Ap ≠ some g := by
                  cases hA : blk Ap with
                  | none => exact Or.inl rfl
                  | some k =>
                    refine Or.inr fun e => ?_
                    have h1 := (hop5.blk_lt k hA).1
                    have h2 := hb2.size
                    injection e with e
                    omega
                refine ⟨Ap, Np, Cp, by rw [HE.out.1, HE.out.2]; rfl, ?_, set11 hb05 (by rw [HG.out]; exact Nat.le_refl _) _ _ _ _ _ _ _ _ _ _ _⟩
                rw [HE.out.2]
                have hle : w.heap.size ≤ w2.heap.size := hb02.size
                exact (Ow.setCell (Ow.setCell (Ow.setCell (Ow.setCell (Ow.setCell (Ow.setCell (Ow.setCell (Ow.setCell (Ow.setCell (Ow.setCell (Ow.setCell (hop5.base hle) hgp) hgp) hgp) hgp) hgp) hgp) hgp) hgp) hgp) hgp) hgp)
            · have HE : Hid (errOf l = 20 ∧ pkOf l = Pk.none) := by
                have e : errOf l = 20 := by
                  unfold errOf
                  rw [if_neg (by rw [HL.out, ← HAT.out]; exact hsh), if_neg (fun h => h HV.out), if_neg (by rw [HL.out, ← HAT.out]; exact hlo), ← HP.out, if_neg (fun h => hpl h.2)]
                exact ⟨e, by unfold pkOf; rw [if_neg (by rw [e]; omega)]⟩
              rw [decide_eq_false hpl] at heq
              have HEQ := Lib.hid heq
              clear heq hpl
              go_wp2_with (go_at_call 17; refine HEQ.out.mono ?_; rintro e w' ⟨rfl, rfl⟩)
              have hr := chain_cells hz5 (.int .i64 0) (.int .i64 0) (.int .i64 0) (.int .i64 0) (.int .u32 0) (.int .u32 0) (.int .i64 0) (.int .i64 0) (.int .i64 0) (.int .i64 0) (.slice none 0 0)
              obtain ⟨r0, r1, r2, r3, r4, r5, r6, r7, r8, r9, r10⟩ := hr
              refine bodyPost_ret (v := .tuple #[.agg #[.int .i64 0, .int .i64 0, .int .i64 0, .int .i64 0, .int .u32 0, .int .u32 0, .int .i64 0, .int .i64 0, .int .i64 0, .int .i64 0, .slice none 0 0], .int .i64 20]) ?_ rfl ?_
              · simp [results, Try.results21, go_sem, r0, r1, r2, r3, r4, r5, r6, r7, r8, r9, r10]
              · refine ⟨none, 0, 0, by rw [HE.out.1, HE.out.2]; rfl, ?_, ?_⟩
                · rw [HE.out.2]
                  exact Ow.nil _ _ _
                · exact set11 hb05 (by rw [HG.out]; exact Nat.le_refl _) _ _ _ _ _ _ _ _ _ _ _
          · rw [chk_no hok] at hput
            have HE : Hid (errOf l = 20 ∧ pkOf l = Pk.none) := by
              have e : errOf l = 20 := by
                unfold errOf
                rw [if_neg (by rw [HL.out, ← HAT.out]; exact hsh), if_neg (fun h => h HV.out), if_neg (by rw [HL.out, ← HAT.out]; exact hlo), ← HP.out, if_neg (fun h => hok h.1)]
              exact ⟨e, by unfold pkOf; rw [if_neg (by rw [e]; omega)]⟩
            have HPUT := Lib.hid hput
            clear hput hok
            refine HPUT.out.mono ?_
            rintro e w5 ⟨A5, N5, C5, rfl, ho5, hb5⟩
            have hb15 : Below w1.heap.size w1 w5 := hb14.trans (hb5.mono hb14.size)
            have hz5 := hz.below hb15 hgl
            have hb05 : Below w.heap.size w w5 := hb01.trans (hb15.mono hb01.size)
            have hz' := hz5
            obtain ⟨z0, z1, z2, z3, z4, z5, z6, z7, z8, z9, z10, y0, y1, y2, y3, y4, y5, y6, y7, y8, y9, y10⟩ := hz'
            go_wp2_with fail
            have hr := chain_cells hz5 (.int .i64 0) (.int .i64 0) (.int .i64 0) (.int .i64 0) (.int .u32 0) (.int .u32 0) (.int .i64 0) (.int .i64 0) (.int .i64 0) (.int .i64 0) (.slice none 0 0)
            obtain ⟨r0, r1, r2, r3, r4, r5, r6, r7, r8, r9, r10⟩ := hr
            refine bodyPost_ret (v := .tuple #[.agg #[.int .i64 0, .int .i64 0, .int .i64 0, .int .i64 0, .int .u32 0, .int .u32 0, .int .i64 0, .int .i64 0, .int .i64 0, .int .i64 0, .slice none 0 0], .int .i64 20]) ?_ rfl ?_
            · simp [results, Try.results21, go_sem, r0, r1, r2, r3, r4, r5, r6, r7, r8, r9, r10]
            · refine ⟨none, 0, 0, by rw [HE.out.1, HE.out.2]; rfl, ?_, ?_⟩
              · rw [HE.out.2]
                exact Ow.nil _ _ _
              · exact set11 hb05 (by rw [HG.out]; exact Nat.le_refl _) _ _ _ _ _ _ _ _ _ _ _
      · have dv : decide (valid l) = false := decide_eq_false hv
        rw [dv]
        have HE : Hid (errOf l = 10 ∧ pkOf l = Pk.none) := by
          have e : errOf l = 10 := by unfold errOf; rw [if_neg (by rw [HL.out, ← HAT.out]; exact hsh), if_pos hv]
          exact ⟨e, by unfold pkOf; rw [if_neg (by rw [e]; omega)]⟩
        clear hv dv
        go_wp2_with fail
        have hr := chain_cells hz2 (.int .i64 0) (.int .i64 0) (.int .i64 0) (.int .i64 0) (.int .u32 0) (.int .u32 0) (.int .i64 0) (.int .i64 0) (.int .i64 0) (.int .i64 0) (.slice none 0 0)
        obtain ⟨r0, r1, r2, r3, r4, r5, r6, r7, r8, r9, r10⟩ := hr
        refine bodyPost_ret (v := .tuple #[.agg #[.int .i64 0, .int .i64 0, .int .i64 0, .int .i64 0, .int .u32 0, .int .u32 0, .int .i64 0, .int .i64 0, .int .i64 0, .int .i64 0, .slice none 0 0], .int .i64 10]) ?_ rfl ?_
        · simp [results, Try.results21, go_sem, r0, r1, r2, r3, r4, r5, r6, r7, r8, r9, r10]
        · refine ⟨none, 0, 0, by rw [HE.out.1, HE.out.2]; rfl, ?_, ?_⟩
          · rw [HE.out.2]
            exact Ow.nil _ _ _
          · exact set11 hb02 (by rw [HG.out]; exact Nat.le_refl _) _ _ _ _ _ _ _ _ _ _ _
end Go.Proofs.Ytjpdamighffgfaa.pk
