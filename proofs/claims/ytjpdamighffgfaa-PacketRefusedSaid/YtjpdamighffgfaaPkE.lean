/- Contract of packet.layOptions. -/
import Derived.Test.YtjpdamighffgfaaPkC
namespace Go.Proofs.Ytjpdamighffgfaa.pk
open Go.RowKit Mem SM lib sum PM
set_option linter.unusedVariables false
/-- a packet in memory -/
def pkO (p : Pk) (A : Option Addr) (n c : Nat) : Obj := .cells #[.int .i64 p.src, .int .i64 p.dst, .int .i64 p.sport, .int .i64 p.dport, .int .u32 p.seq, .int .u32 p.ack, .int .i64 p.flags, .int .i64 p.window, .int .i64 p.probe, .int .i64 p.origin, .slice A n c] 25
/-- what a step leaves: a row of the call's own, above block base; below it all is as it was -/
def Row (base : Nat) (W : World) (l : List UInt8) (v : Value) (w : World) : Prop := ∃ A n c, v = .slice A n c ∧ Ow w base 5 A n c (bv l) ∧ Below base W w ∧ base ≤ w.heap.size
/-- what stays of the world: below block g + 1 all is as it was in W -/
def Kp (g : Nat) (W w : World) : Prop := g + 1 ≤ w.heap.size ∧ Below (g + 1) W w
theorem Kp.drew {g : Nat} {W w : World} (h : Kp g W w) : Kp g W w.drew := ⟨h.1, ⟨h.2.os, h.2.tape, h.2.output, h.2.size, h.2.block⟩⟩
theorem Kp.drewN {g : Nat} {W w : World} (h : Kp g W w) (q : Nat) : Kp g W (w.drewN q) := ⟨h.1, ⟨h.2.os, h.2.tape, h.2.output, h.2.size, h.2.block⟩⟩
theorem Kp.alloc {g : Nat} {W w : World} (h : Kp g W w) (o : Obj) : Kp g W (w.alloc o) := ⟨by have := h.1; simp; omega, h.2.alloc h.1 _⟩
theorem Kp.below {g : Nat} {W w w1 : World} (h : Kp g W w) (hb : Below (g + 1) w w1) : Kp g W w1 := ⟨Nat.le_trans h.1 hb.size, h.2.trans hb⟩
theorem Kp.grew {g : Nat} {W w w1 : World} (h : Kp g W w) {A A1 : Option Addr} (hg : Grew w w1 A A1) (hA : ∀ k, blk A = some k → g + 1 ≤ k) : Kp g W w1 := h.below (hg.below h.1 hA)
theorem Kp.cell {g k : Nat} {W w : World} (h : Kp g W w) : w.cell? ⟨g, k, none⟩ = W.cell? ⟨g, k, none⟩ := h.2.cell (p := ⟨g, k, none⟩) (Nat.lt_succ_self g)
theorem Kp.s {g k : Nat} {W w : World} {v : Value} (h : Kp g W w) (hc : W.cell? ⟨g, k, none⟩ = some v) : w.cell? ⟨g, k, none⟩ = some v ∧ Kp g W w := ⟨h.cell.trans hc, h⟩
theorem rd_alloc (w : World) (E : TypeId) (cs : List Value) (fr : Nat × Nat) : Rd (w.alloc (.cells cs.toArray E fr)) (w.heap.size + 1) (some ⟨w.heap.size, 0, none⟩) cs.length cs := by
  refine ⟨rfl, fun _ => ⟨_, 0, rfl, by omega, fun i hi => ?_⟩⟩
  have h : (w.alloc (.cells cs.toArray E fr)).heap[w.heap.size]? = some (.cells cs.toArray E fr) := by
    show (w.heap.push _)[w.heap.size]? = _
    simp
  unfold World.cell?
  rw [h]
  simp
theorem two_one (a b : Int) : ∀ u ∈ [Value.int .u8 a, Value.int .u8 b], u.oneCell' = true := by
  intro u hu
  simp at hu
  rcases hu with rfl | rfl <;> rfl
set_option maxHeartbeats 4000000 in
theorem layOptions_any (p : Pk) (A : Option Addr) (n c : Nat) (w : World) (h0 : 0 ≤ p.probe) (h1 : p.probe ≤ 9223372036854775807) (h2 : 0 ≤ p.origin) (h3 : p.origin ≤ 9223372036854775807) :
    Calls Try.prog 32 #[pkV p A n c] w (Made w (optB p)) := by
  unfold pkV
  obtain ⟨W, hW⟩ : ∃ W, W = w.alloc (pkO p A n c) := ⟨_, rfl⟩
  obtain ⟨g, hg⟩ : ∃ g, g = w.heap.size := ⟨_, rfl⟩
  have hs : W.heap.size = g + 1 := by rw [hW, hg]; simp
  have c8 : W.cell? ⟨g, 8, none⟩ = some (.int .i64 p.probe) := by rw [hW, hg]; unfold pkO; simp
  have c9 : W.cell? ⟨g, 9, none⟩ = some (.int .i64 p.origin) := by rw [hW, hg]; unfold pkO; simp
  have hb0 : Below g w W := by rw [hW, hg]; exact (Below.refl _ _).alloc (Nat.le_refl _) _
  have HW := Lib.hid hW
  have Hg := Lib.hid hg
  have Hs := Lib.hid hs
  have HB := Lib.hid hb0
  clear hs hb0 hW hg
  go_enter Try.func32, Try.ntmps32
  go_upto_region 2 with fail
  have hW2 : w.alloc (.cells #[.int .i64 p.src, .int .i64 p.dst, .int .i64 p.sport, .int .i64 p.dport, .int .u32 p.seq, .int .u32 p.ack, .int .i64 p.flags, .int .i64 p.window, .int .i64 p.probe, .int .i64 p.origin, .slice A n c] 25) = W := HW.out.symm
  rw [hW2, ← Hg.out]
  clear hW2
  go_upto_if 6 with fail
  go_outline
  go_cut [3] (fun s3 wx => Row (g + 1) W (probeB p) s3 wx)
  case first =>
    by_cases hz : p.probe = 0
    · have dz : (p.probe != 0) = false := by simp [hz]
      have hr : Row (g + 1) W (probeB p) (.slice none 0 0) W := ⟨none, 0, 0, rfl, by unfold probeB; rw [if_pos hz]; exact Ow.nil _ _ _, Below.refl _ _, by rw [Hs.out]; exact Nat.le_refl _⟩
      clear hz
      go_wp2_with fail
      go_meet
      exact hr
    · have dz : (p.probe != 0) = true := by simpa using hz
      have hp : probeB p = 1 :: 10 :: bigB p.probe 8 := by unfold probeB; rw [if_neg hz]
      have Hp := Lib.hid hp
      clear hz hp
      go_wp2_with fail
      have hk0 : Kp g W W := ⟨by rw [Hs.out]; exact Nat.le_refl _, Below.refl _ _⟩
      go_region_held3 (fun w' => w'.cell? ⟨g, 8, none⟩ = some (.int .i64 p.probe) ∧ Kp g W w')
        (first
          | exact Kp.s hk0.drew c8
          | exact Kp.s (hk0.alloc _).drew c8
          | exact Kp.s ((hk0.alloc _).drew.below hb1) c8
          | exact Kp.s (((hk0.alloc _).drew.below hb1).grew hg2 (fun k hk => (ho1.blk_lt k hk).1)) c8)
        (first
          | (refine step_app u8ty rfl (.tmp 7) (.tmp 8) rfl rfl rfl (Ow.nil _ (g + 1) _) (rd_alloc _ _ [.int .u8 1, .int .u8 10] (0, 0)).drew (two_one _ _) (by simp) (by simp) (hk0.alloc _).drew.1 ?_; intro A1 N1 c1 w1 ho1 hN1 hb1 hg1)
          | (go_at_call 33; refine (layI_any _ _ _ (g + 1) 8 [1, 10] p.probe _ ho1 ((hk0.alloc _).drew.below hb1).1 (by omega) (by omega) (by omega) (by omega)).mono ?_; rintro e w2 ⟨A2, N2, c2, rfl, hN2, ho2, hg2⟩))
      all_goals
        go_wp2_with fail
        go_meet
        exact ⟨_, _, _, rfl, by rw [Hp.out]; exact ho2, (((hk0.alloc _).drew.below hb1).grew hg2 (fun k hk => (ho1.blk_lt k hk).1)).2, (((hk0.alloc _).drew.below hb1).grew hg2 (fun k hk => (ho1.blk_lt k hk).1)).1⟩
  case rest =>
    obtain ⟨A0, n0, c0, rfl, ho0, hbw, hsz⟩ := hcut
    have hn0 : n0 ≤ 10 := by
      have := ho0.len
      rw [bv_len] at this
      have h10 : (probeB p).length ≤ 10 := by unfold probeB; split <;> simp [bigB_len]
      omega
    have hk0 : Kp g W wc := ⟨hsz, hbw⟩
    have c9' : wc.cell? ⟨g, 9, none⟩ = some (.int .i64 p.origin) := hk0.cell.trans c9
    clear c8 hbw hsz
    go_upto_if 15 with fail
    go_cut [3] (fun s3 wx => Row (g + 1) W (optB p) s3 wx)
    case first =>
      by_cases hz : p.origin = 0
      · have dz : (p.origin != 0) = false := by simp [hz]
        have hr : Row (g + 1) W (optB p) (.slice A0 n0 c0) wc := ⟨A0, n0, c0, rfl, by unfold optB originB; rw [if_pos hz, List.append_nil]; exact ho0, hk0.2, hk0.1⟩
        clear hz
        go_wp2_with fail
        go_meet
        exact hr
      · have dz : (p.origin != 0) = true := by simpa using hz
        have hp : optB p = probeB p ++ [2, 4] ++ bigB p.origin 2 := by unfold optB originB; rw [if_neg hz]; simp
        have Hp := Lib.hid hp
        clear hz hp
        go_wp2_with fail
        go_region_held3 (fun w' => w'.cell? ⟨g, 9, none⟩ = some (.int .i64 p.origin) ∧ Kp g W w')
          (first
            | exact Kp.s hk0.drew c9
            | exact Kp.s (hk0.alloc _).drew c9
            | exact Kp.s ((hk0.alloc _).drew.below hb1) c9
            | exact Kp.s (((hk0.alloc _).drew.below hb1).grew hg2 (fun k hk => (ho1.blk_lt k hk).1)) c9)
          (first
            | (refine step_app u8ty rfl (.tmp 16) (.tmp 17) rfl rfl rfl ((ho0.alloc _).drew) (rd_alloc _ _ [.int .u8 2, .int .u8 4] (0, 0)).drew (two_one _ _) (by simp; omega) (by simp; omega) (hk0.alloc _).drew.1 ?_; intro A1 N1 c1 w1 ho1 hN1 hb1 hg1)
            | (go_at_call 33; refine (layI_any _ _ _ (g + 1) 2 (probeB p ++ [2, 4]) p.origin _ (by rw [bv_app]; exact ho1) ((hk0.alloc _).drew.below hb1).1 (by omega) (by omega) (by omega) (by omega)).mono ?_; rintro e w2 ⟨A2, N2, c2, rfl, hN2, ho2, hg2⟩))
        all_goals
          go_wp2_with fail
          go_meet
          exact ⟨_, _, _, rfl, by rw [Hp.out]; exact ho2, (((hk0.alloc _).drew.below hb1).grew hg2 (fun k hk => (ho1.blk_lt k hk).1)).2, (((hk0.alloc _).drew.below hb1).grew hg2 (fun k hk => (ho1.blk_lt k hk).1)).1⟩
    case rest =>
      obtain ⟨A3, n3, c3, rfl, ho3, hb3, hs3⟩ := hcut
      go_wp2
      go_ret
      refine ⟨_, _, _, rfl, (ho3.base (by rw [← Hg.out]; omega)), ?_⟩
      rw [← Hg.out]
      exact HB.out.trans (hb3.mono (by omega))
end Go.Proofs.Ytjpdamighffgfaa.pk
