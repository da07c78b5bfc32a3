/- Contract of the document's Put. -/
import Derived.Test.YtjpdamighffgfaaPkF
namespace Go.Proofs.Ytjpdamighffgfaa.pk
open Go.RowKit Mem SM lib sum PM
set_option linter.unusedVariables false
theorem three_one (a b c : Int) : ∀ u ∈ [Value.int .u8 a, Value.int .u8 b, Value.int .u8 c], u.oneCell' = true := by
  intro u hu
  simp at hu
  rcases hu with rfl | rfl | rfl <;> rfl
theorem rd_allocN (w : World) (E : TypeId) (cs : List Value) (fr : Nat × Nat) (k : Nat) (hk : w.heap.size = k) : Rd (w.alloc (.cells cs.toArray E fr)) (w.heap.size + 1) (some ⟨k, 0, none⟩) cs.length cs := by
  subst hk; exact rd_alloc w E cs fr
def BigPost (v : Int) (k : Nat) (w : World) (e : Ending) (w' : World) : Prop := ∃ A N c, e = .returned (.slice A N c) ∧ N ≤ 8 ∧ Ow w' w.heap.size 5 A N c (bv (bigB v k)) ∧ Below w.heap.size w w'
theorem bigN_any (v : Int) (k : Nat) (w : World) (hk : k ≤ 8) (h0 : 0 ≤ v) (h1 : v ≤ 9223372036854775807) :
    Calls Try.prog 37 #[.int .i64 v, .int .i64 k] w (BigPost v k w) :=
  (big_any v k w hk h0 h1).mono fun e w' ⟨A, N, c, h, ho, hb⟩ => ⟨A, N, c, h, by have := ho.len; rw [bv_len, bigB_len] at this; omega, ho, hb⟩
/-- a row that was made above another one has another block -/
theorem apart {w1 w2 : World} {b : Nat} {A1 A2 : Option Addr} {n1 c1 n2 c2 : Nat} {x1 x2 : List Value} (h1 : Ow w1 w2.heap.size 5 A1 n1 c1 x1) (h2 : Ow w2 b 5 A2 n2 c2 x2) : blk A1 = none ∨ blk A1 ≠ blk A2 := by
  cases hA : blk A1 with
  | none => exact Or.inl rfl
  | some k =>
    refine Or.inr fun e => ?_
    have h3 := (h1.blk_lt k hA).1
    have h4 := (h2.blk_lt k e.symm).2
    omega
theorem big2_any (v : Int) (w : World) (h0 : 0 ≤ v) (h1 : v ≤ 9223372036854775807) :
    Calls Try.prog 37 #[.int .i64 v, .int .i64 2] w (BigPost v 2 w) := bigN_any v 2 w (by omega) h0 h1
theorem big4_any (v : Int) (w : World) (h0 : 0 ≤ v) (h1 : v ≤ 9223372036854775807) :
    Calls Try.prog 37 #[.int .i64 v, .int .i64 4] w (BigPost v 4 w) := bigN_any v 4 w (by omega) h0 h1
theorem big8_any (v : Int) (w : World) (h0 : 0 ≤ v) (h1 : v ≤ 9223372036854775807) :
    Calls Try.prog 37 #[.int .i64 v, .int .i64 8] w (BigPost v 8 w) := bigN_any v 8 w (by omega) h0 h1
set_option maxRecDepth 50000 in
set_option maxHeartbeats 16000000 in
theorem rput_any (p : Pk) (A : Option Addr) (n c B : Nat) (w : World) (h : Rd w B A n (bv p.data)) (hB : B ≤ w.heap.size) (hc : n ≤ c) (hn : n ≤ 9223372036854775807) (hu : u32P p) :
    Calls Try.prog 16 #[pkV p A n c] w (PutPost p w) := by
  unfold pkV
  have hlen : n = p.data.length := by rw [← bv_len, h.len]
  obtain ⟨W, hW⟩ : ∃ W, W = w.alloc (pkO p A n c) := ⟨_, rfl⟩
  obtain ⟨g, hg⟩ : ∃ g, g = w.heap.size := ⟨_, rfl⟩
  have hP : PkAt W g p A n c := by rw [hW, hg]; exact PkAt.new _ _ _ _ _
  have hs : W.heap.size = g + 1 := by rw [hW, hg]; simp
  have hb0 : Below g w W := by rw [hW, hg]; exact (Below.refl _ _).alloc (Nat.le_refl _) _
  have hk0 : Kp g W W := ⟨by rw [hs]; exact Nat.le_refl _, Below.refl _ _⟩
  have hr0 : Rd W (g + 1) A n (bv p.data) := (h.below hb0 (by rw [hg]; exact hB)).more (by rw [hg]; omega)
  have HW := Lib.hid hW
  have Hg := Lib.hid hg
  have Hs := Lib.hid hs
  have HB := Lib.hid hb0
  have Hl := Lib.hid hlen
  have hP' := hP
  have HP := Lib.hid hP'
  obtain ⟨c0, c1, c2, c3, c4, c5, c6, c7, c8, c9, c10⟩ := hP
  clear hs hb0 hW hg hlen hP'
  by_cases hok : okP p
  · have e0 := chk_ok hok
    have he0 : putR p = putB p := if_pos hok
    have He := Lib.hid he0
    have Hok := Lib.hid hok
    clear hok he0
    have hck := rcheck_any p A n c
    rw [e0] at hck
    have HC := Lib.hid hck
    have E0 := Lib.hid e0
    clear hck e0
    go_enter Try.func16, Try.ntmps16
    go_upto_region 1 with fail
    have hW2 : w.alloc (.cells #[.int .i64 p.src, .int .i64 p.dst, .int .i64 p.sport, .int .i64 p.dport, .int .u32 p.seq, .int .u32 p.ack, .int .i64 p.flags, .int .i64 p.window, .int .i64 p.probe, .int .i64 p.origin, .slice A n c] 25) = W := HW.out.symm
    rw [hW2, ← Hg.out]
    clear hW2
    go_wp2_with fail
    refine (HC.out W Hl.out hn).mono ?_
    rintro e w1 ⟨rfl, hb1⟩
    have hk1 : Kp g W w1 := hk0.below (by rw [← Hs.out]; exact hb1)
    clear hb1 c0 c1 c2 c3 c4 c5 c6 c7 c8 c9 c10
    have hP1 := HP.out.kp hk1
    have c8 := hP1.c8
    have HP1 := Lib.hid hP1
    clear hP1
    have hok := Hok.out
    obtain ⟨o1, o2, o3, o4, o5, o6, o7, o8, o9, o10⟩ := hok
    obtain ⟨u1, u2⟩ := hu
    go_upto_if 14 with fail
    go_cut [4] (fun s4 wx => Row (g + 1) W (probeB p) s4 wx)
    case first =>
      by_cases hz : p.probe = 0
      · have dz : (p.probe != 0) = false := by simp [hz]
        have hr : Row (g + 1) W (probeB p) (.slice none 0 0) w1 := ⟨none, 0, 0, rfl, by unfold probeB; rw [if_pos hz]; exact Ow.nil _ _ _, hk1.2, hk1.1⟩
        clear hz
        go_wp2_with fail
        go_meet
        exact hr
      · have dz : (p.probe != 0) = true := by simpa using hz
        have hp : probeB p = [1, 10] ++ bigB p.probe 8 := by unfold probeB; rw [if_neg hz]; rfl
        have Hp := Lib.hid hp
        clear hz hp
        go_wp2_with fail
        go_region_held3 (fun w' => w'.cell? ⟨g, 8, none⟩ = some (.int .i64 p.probe) ∧ Kp g W w')
          (first
            | exact Kp.s hk1.drew HP.out.c8
            | exact Kp.s (hk1.alloc _).drew HP.out.c8
            | exact Kp.s hj1 HP.out.c8
            | exact Kp.s hj2 HP.out.c8
            | exact Kp.s hj3 HP.out.c8 | fail)
          (first
            | (refine step_app u8ty rfl (.tmp 15) (.tmp 16) rfl rfl rfl (Ow.nil _ (g + 1) _) (rd_alloc _ _ [.int .u8 1, .int .u8 10] (0, 0)).drew (two_one _ _) (by simp) (by simp) (hk1.alloc _).drew.1 ?_; intro A1 N1 c1 v1 ho1 hN1 hb1 _; have hj1 := (hk1.alloc _).drew.below hb1)
            | (go_at_call 37; (with_reducible refine (big8_any p.probe _ (by omega) (by omega)).mono ?_); rintro e v2 ⟨A2, N2, c2, rfl, hN2, ho2, hb2⟩; have hj2 := hj1.below (hb2.mono hj1.1))
            | (refine step_app u8ty rfl (.tmp 17) (.tmp 20) rfl rfl rfl (ho1.below hb2 (Nat.le_refl _)) ho2.rd (bv_one _) (by omega) (by omega) hj2.1 ?_; intro A3 N3 c3 v3 ho3 hN3 hb3 _; have hj3 := hj2.below hb3) | fail)
        all_goals
          go_wp2_with fail
          go_meet
          exact ⟨_, _, _, rfl, by rw [Hp.out, bv_app]; exact ho3, hj3.2, hj3.1⟩
    case rest =>
      obtain ⟨A0, n0, q0, rfl, ho0, hbw, hsz⟩ := hcut
      have hn0 : n0 ≤ 10 := by
        have := ho0.len
        rw [bv_len] at this
        have h10 : (probeB p).length ≤ 10 := by unfold probeB; split <;> simp [bigB_len]
        omega
      have hk2 : Kp g W wc := ⟨hsz, hbw⟩
      have c9 := (HP.out.kp hk2).c9
      clear c8 hbw hsz
      go_upto_if 24 with fail
      go_cut [4] (fun s4 wx => Row (g + 1) W (optB p) s4 wx)
      case first =>
        by_cases hz : p.origin = 0
        · have dz : (p.origin != 0) = false := by simp [hz]
          have hr : Row (g + 1) W (optB p) (.slice A0 n0 q0) wc := ⟨A0, n0, q0, rfl, by unfold optB originB; rw [if_pos hz, List.append_nil]; exact ho0, hk2.2, hk2.1⟩
          clear hz
          go_wp2_with fail
          go_meet
          exact hr
        · have dz : (p.origin != 0) = true := by simpa using hz
          have hp : optB p = probeB p ++ [2, 4] ++ bigB p.origin 2 := by unfold optB originB; rw [if_neg hz]; simp
          have Hp := Lib.hid hp
          clear hz hp
          go_wp2_with fail
          go_region_held3 (fun w' => w'.cell? ⟨g, 9, none⟩ = some (.int .i64 p.origin) ∧ Kp g W w')
            (first
              | exact Kp.s hk2.drew HP.out.c9
              | exact Kp.s (hk2.alloc _).drew HP.out.c9
              | exact Kp.s hj1 HP.out.c9
              | exact Kp.s hj2 HP.out.c9
              | exact Kp.s hj3 HP.out.c9 | fail)
            (first
              | (refine step_app u8ty rfl (.tmp 25) (.tmp 26) rfl rfl rfl ((ho0.alloc _).drew) (rd_alloc _ _ [.int .u8 2, .int .u8 4] (0, 0)).drew (two_one _ _) (by simp; omega) (by simp; omega) (hk2.alloc _).drew.1 ?_; intro A1 N1 c1 v1 ho1 hN1 hb1 _; have hj1 := (hk2.alloc _).drew.below hb1)
              | (go_at_call 37; (with_reducible refine (big2_any p.origin _ (by omega) (by omega)).mono ?_); rintro e v2 ⟨A2, N2, c2, rfl, hN2, ho2, hb2⟩; have hj2 := hj1.below (hb2.mono hj1.1))
              | (refine step_app u8ty rfl (.tmp 27) (.tmp 30) rfl rfl rfl (ho1.below hb2 (Nat.le_refl _)) ho2.rd (bv_one _) (by omega) (by omega) hj2.1 ?_; intro A3 N3 c3 v3 ho3 hN3 hb3 _; have hj3 := hj2.below hb3) | fail)
          all_goals
            go_wp2_with fail
            go_meet
            exact ⟨_, _, _, rfl, by rw [Hp.out, bv_app, bv_app]; exact ho3, hj3.2, hj3.1⟩
      case rest =>
        obtain ⟨Ao, No, co, rfl, hoo, hbw, hsz⟩ := hcut
        have hNo : No = (optB p).length := by rw [← hoo.len, bv_len]
        have hNo14 : No ≤ 14 := by have := (optB_len p).1; omega
        have hn128 : n ≤ 128 := by have := Hl.out; omega
        have HNo := Lib.hid hNo
        clear hNo c9
        have hk3 : Kp g W wc := ⟨hsz, hbw⟩
        obtain ⟨g2, hg2⟩ : ∃ g2, wc.heap.size = g2 + 1 := ⟨wc.heap.size - 1, by have := hk3.1; omega⟩
        have hgg : g < g2 + 1 := by have := hk3.1; omega
        have hP2 := HP.out.kp hk3
        have hro : Rd wc (g2 + 1) Ao No (bv (optB p)) := by rw [← hg2]; exact hoo.rd
        have hrd : Rd wc (g2 + 1) A n (bv p.data) := (hr0.below hk3.2 (Nat.le_refl _)).more (by omega)
        have hkk : Kp g2 wc wc := ⟨by rw [hg2]; exact Nat.le_refl _, Below.refl _ _⟩
        have HK2 := Lib.hid hk3
        have HP2 := Lib.hid hP2
        have HG2 := Lib.hid hg2
        clear hbw hsz hk3 hoo hg2 hr0 HC E0 ho0 hk2 hk1 HP1
        clear hP2
        have k1 := b8_small p.src (by omega) (by omega)
        have k2 := b8_small p.dst (by omega) (by omega)
        have k3 := b8_small p.flags (by omega) (by omega)
        have K1 := Lib.hid k1
        have K2 := Lib.hid k2
        have K3 := Lib.hid k3
        clear k1 k2 k3
        have hkA := hkk.alloc (.cells #[.int .u8 70] 5)
        obtain ⟨c0, c1, c2, c3, c4, c5, c6, c7, c8, c9, c10⟩ := HP2.out.below hkA.2 hgg
        have hkB := hkA.alloc (.cells #[.int .u8 p.src, .int .u8 p.dst, .int .u8 p.flags] 5)
        go_upto_region 9 with (at_builtin; refine wp_app u8ty rfl (.tmp 32) (.tmp 42) rfl rfl rfl ((Ow.lit1 wc 5 (.int .u8 70) hkk.1).alloc _) (rd_allocN _ _ _ (0, 0) _ (by simp)) (three_one _ _ _) (by simp) (by simp) hkB.1 ?_; intro A3 N3 C3 w3 ho3 hN3 hb3 _; have hk3 := hkB.below hb3)
        have hN3' : N3 ≤ 4 := by simpa using hN3
        have ho3' : Ow w3 (g2 + 1) 5 A3 N3 C3 (bv [70, b8 p.src, b8 p.dst, b8 p.flags]) := by simpa [bv, K1.out, K2.out, K3.out] using ho3
        clear ho3 hN3 hb3 c0 c1 c2 c3 c4 c5 c6 c7 c8 c9 c10
        go_region_held3 (fun w' => w'.cell? ⟨g, 2, none⟩ = some (.int .i64 p.sport) ∧ w'.cell? ⟨g, 3, none⟩ = some (.int .i64 p.dport) ∧ Kp g2 wc w')
          (first
            | exact ⟨(HP2.out.below (hk3.drew).2 hgg).c2, (HP2.out.below (hk3.drew).2 hgg).c3, hk3.drew⟩
            | exact ⟨(HP2.out.below (hj1).2 hgg).c2, (HP2.out.below (hj1).2 hgg).c3, hj1⟩
            | exact ⟨(HP2.out.below (hj2).2 hgg).c2, (HP2.out.below (hj2).2 hgg).c3, hj2⟩
            | exact ⟨(HP2.out.below (hj3).2 hgg).c2, (HP2.out.below (hj3).2 hgg).c3, hj3⟩
            | exact ⟨(HP2.out.below (hk4).2 hgg).c2, (HP2.out.below (hk4).2 hgg).c3, hk4⟩ | fail)
          (first
            | (go_at_call 37; (with_reducible refine (big2_any p.sport _ (by omega) (by omega)).mono ?_); rintro e v1 ⟨X1, M1, D1, rfl, hM1, hx1, hy1⟩; have hj1 := hk3.drew.below (hy1.mono hk3.drew.1); have hf1 := (ho3'.drew).below hy1 (Nat.le_refl _))
            | (refine step_app u8ty rfl (.tmp 44) (.tmp 47) rfl rfl rfl hf1 hx1.rd (bv_one _) (by omega) (by omega) hj1.1 ?_; intro X2 M2 D2 v2 hx2 hM2 hy2 _; have hj2 := hj1.below hy2)
            | (go_at_call 37; (with_reducible refine (big2_any p.dport _ (by omega) (by omega)).mono ?_); rintro e v3 ⟨X3, M3, D3, rfl, hM3, hx3, hy3⟩; have hj3 := hj2.below (hy3.mono hj2.1); have hf3 := hx2.below hy3 (Nat.le_refl _))
            | (refine step_app u8ty rfl (.tmp 48) (.tmp 51) rfl rfl rfl hf3 hx3.rd (bv_one _) (by omega) (by omega) hj3.1 ?_; intro A4 N4 C4 w4 ho4 hN4 hy4 _; have hk4 := hj3.below hy4) | fail)
        have hN4' : N4 ≤ 20 := by omega
        clear hM1 hM3 hx1 hx2 hx3 hy1 hy2 hy3 hy4 hj1 hj2 hj3 hf1 hf3 hN4 hM2 hN3' ho3'
        go_wp2_with fail
        have ws1 : IntKind.i64.wrap p.seq = p.seq := IntWalk.i64_in _ (by omega)
        have ws2 : IntKind.i64.wrap p.ack = p.ack := IntWalk.i64_in _ (by omega)
        go_region_held3 (fun w' => w'.cell? ⟨g, 4, none⟩ = some (.int .u32 p.seq) ∧ w'.cell? ⟨g, 5, none⟩ = some (.int .u32 p.ack) ∧ Kp g2 wc w')
          (first
            | exact ⟨(HP2.out.below (hk4.drew).2 hgg).c4, (HP2.out.below (hk4.drew).2 hgg).c5, hk4.drew⟩
            | exact ⟨(HP2.out.below (hj1).2 hgg).c4, (HP2.out.below (hj1).2 hgg).c5, hj1⟩
            | exact ⟨(HP2.out.below (hj2).2 hgg).c4, (HP2.out.below (hj2).2 hgg).c5, hj2⟩
            | exact ⟨(HP2.out.below (hj3).2 hgg).c4, (HP2.out.below (hj3).2 hgg).c5, hj3⟩
            | exact ⟨(HP2.out.below (hk5).2 hgg).c4, (HP2.out.below (hk5).2 hgg).c5, hk5⟩ | fail)
          (first
            | (go_at_call 37; (with_reducible refine (big4_any p.seq _ (by omega) (by omega)).mono ?_); rintro e v1 ⟨X1, M1, D1, rfl, hM1, hx1, hy1⟩; have hj1 := hk4.drew.below (hy1.mono hk4.drew.1); have hf1 := (ho4.drew).below hy1 (Nat.le_refl _))
            | (refine step_app u8ty rfl (.tmp 53) (.tmp 57) rfl rfl rfl hf1 hx1.rd (bv_one _) (by omega) (by omega) hj1.1 ?_; intro X2 M2 D2 v2 hx2 hM2 hy2 _; have hj2 := hj1.below hy2)
            | (go_at_call 37; (with_reducible refine (big4_any p.ack _ (by omega) (by omega)).mono ?_); rintro e v3 ⟨X3, M3, D3, rfl, hM3, hx3, hy3⟩; have hj3 := hj2.below (hy3.mono hj2.1); have hf3 := hx2.below hy3 (Nat.le_refl _))
            | (refine step_app u8ty rfl (.tmp 58) (.tmp 62) rfl rfl rfl hf3 hx3.rd (bv_one _) (by omega) (by omega) hj3.1 ?_; intro A5 N5 C5 w5 ho5 hN5 hy5 _; have hk5 := hj3.below hy5) | fail)
        clear ws1 ws2
        have hN5' : N5 ≤ 36 := by omega
        clear hM1 hM3 hx1 hx2 hx3 hy1 hy2 hy3 hy5 hj1 hj2 hj3 hf1 hf3 hN5 hM2 hN4' ho4
        have c7 := (HP2.out.below hk5.2 hgg).c7
        go_wp2_with fail
        refine (big2_any p.window _ (by omega) (by omega)).mono ?_
        rintro e v6 ⟨X6, M6, D6, rfl, hM6, hx6, hy6⟩
        have hj6 := hk5.below (hy6.mono hk5.1)
        have hf6 := ho5.below hy6 (Nat.le_refl _)
        go_upto_region 12 with (at_builtin; refine wp_app u8ty rfl (.tmp 64) (.tmp 67) rfl rfl rfl hf6 hx6.rd (bv_one _) (by omega) (by omega) hj6.1 ?_; intro A6 N6 C6 w6 ho6 hN6 hy6' _; have hk6 := hj6.below hy6')
        have hN6' : N6 ≤ 44 := by omega
        have hfr : Ow w6 (g2 + 1) 5 A6 N6 C6 (bv (frontB p)) := by
          unfold frontB
          rw [bv_app, bv_app, bv_app, bv_app, bv_app]
          exact ho6
        have hNf : N6 = 18 := by have := hfr.len; rw [bv_len, frontB_len] at this; omega
        subst hNf
        clear c7 hM6 hx6 hy6 hj6 hf6 hy6' ho6 ho5 hN6 hN6' hN5' hk5
        have hl1 : Ow (w6.alloc (.cells #[.int .u8 (No : Int), .int .u8 0] 5)) w6.heap.size 5 (some ⟨w6.heap.size, 0, none⟩) 2 2 [.int .u8 (No : Int), .int .u8 0] := Ow.lit w6 5 [.int .u8 (No : Int), .int .u8 0] (Nat.le_refl _) (by simp [maxLen])
        go_upto_region 13 with (at_builtin; refine wp_app u8ty rfl (.tmp 72) (.tmp 73) rfl rfl rfl hl1 (hro.below (hk6.alloc _).2 (Nat.le_refl _)) (bv_one _) (by omega) (by omega) (by simp) ?_; intro A7 N7 C7 w7 ho7 hN7 hb7 _; have hm7 := ((Below.refl w6.heap.size w6).alloc (Nat.le_refl _) _).trans hb7; have hk7 := hk6.below (hm7.mono hk6.1))
        have hN7' : N7 ≤ 16 := by omega
        have c10 := (HP2.out.below hk7.2 hgg).c10
        go_upto_region 14 with (at_builtin; refine wp_app u8ty rfl (.tmp 75) (.tmp 77) rfl rfl rfl ho7 (hrd.below hk7.2 (Nat.le_refl _)) (bv_one _) (by omega) (by omega) hm7.size ?_; intro A8 N8 C8 w8 ho8 hN8 hb8 _; have hm8 := hm7.trans hb8)
        have hta : Ow w8 w6.heap.size 5 A8 N8 C8 (bv (tailB p)) := by
          have e : bv (tailB p) = ([.int .u8 (No : Int), .int .u8 0] ++ bv (optB p)) ++ bv p.data := by
            have k := b8_small (((optB p).length : Nat) : Int) (by omega) (by have := (optB_len p).1; omega)
            rw [← HNo.out] at k
            unfold tailB
            rw [bv_app, bv_app, ← HNo.out]
            simp [bv, k]
          rw [e]
          exact ho8
        have hN8' : N8 ≤ 144 := by omega
        have hl2 := Ow.lit0 w8 5 (Nat.le_refl w8.heap.size)
        have hf8 := hfr.below hm8 (Nat.le_refl _)
        have hs8 := hm8.size
        clear ho7 ho8 hl1 hb7 hb8 hN7 hN8 hm7 c10
        go_upto_region 15 with (first
          | (at_builtin; refine wp_app u8ty rfl (.tmp 79) (.tmp 80) rfl rfl rfl hl2 (hf8.alloc _).rd (bv_one _) (by omega) (by omega) (by simp) ?_; intro A9 N9 C9 w9 ho9 hN9 hb9 _; have hm9 := ((Below.refl w8.heap.size w8).alloc (Nat.le_refl _) _).trans hb9)
          | (at_builtin; refine wp_app u8ty rfl (.tmp 81) (.tmp 82) rfl rfl rfl (ho9.alloc _) (rd_alloc _ _ [.int .u8 0, .int .u8 0] (0, 0)) (two_one _ _) (by simp; omega) (by simp; omega) (by have := hm9.size; simp; omega) ?_; intro A10 N10 C10 w10 ho10 hN10 hb10 _; have hm10 := (hm9.alloc hm9.size _).trans hb10)
          | (at_builtin; refine wp_app u8ty rfl (.tmp 83) (.tmp 84) rfl rfl rfl ho10 (hta.below hm10 (Nat.le_refl _)).rd (bv_one _) (by omega) (by omega) hm10.size ?_; intro A11 N11 C11 w11 ho11 hN11 hb11 _; have hm11 := hm10.trans hb11)
          | fail)
        have hbl : Ow w11 w8.heap.size 5 A11 N11 C11 (bv (blankB p)) := by
          have e : bv (blankB p) = (([] ++ bv (frontB p)) ++ [.int .u8 0, .int .u8 0]) ++ bv (tailB p) := by
            unfold blankB
            rw [bv_app, bv_app]
            rfl
          rw [e]
          exact ho11
        have hNb : N11 = (blankB p).length := by rw [← hbl.len, bv_len]
        have hN22 : N11 ≤ 164 := by
          have := blankB_len p
          have := Hl.out
          have := HNo.out
          omega
        have HNb := Lib.hid hNb
        have hpt : Parts (w11.alloc (.cells #[.slice A11 N11 C11] 23)) (w11.heap.size + 1) (some ⟨w11.heap.size, 0, none⟩) 1 [blankB p] := Parts.one hbl.rd hbl.cap.1 (Nat.le_refl _) _
        have hsum : inet [blankB p] ≤ 65535 := sumP_le p
        have htot : tot [blankB p] ≤ 1099511627776 := by simp [tot]; omega
        have hinet := refInet_any (some ⟨w11.heap.size, 0, none⟩) 1 1 _ _ _ hpt (by simp) (by omega) htot
        have HI := Lib.hid hinet
        clear hNb hpt htot ho9 ho10 ho11 hN9 hN10 hN11 hb9 hb10 hb11 hl2 hinet hm9 hm10
        go_wp2_with fail
        refine HI.out.mono ?_
        rintro e w12 ⟨rfl, hb12⟩
        have hm12 : Below w8.heap.size w8 w12 := (hm11.alloc hm11.size _).trans (hb12.mono (by have := hm11.size; simp; omega))
        go_wp2_with fail
        refine (big2_any _ _ (by omega) (by omega)).mono ?_
        rintro e w13 ⟨A13, N13, C13, rfl, hN13, ho13, hb13⟩
        have hm13 := hm12.trans (hb13.mono hm12.size)
        have hf13 := hf8.below hm13 (Nat.le_refl _)
        have ht13 := hta.below hm13 (Nat.le_refl _)
        have hk8 : Kp g2 wc w8 := ⟨Nat.le_trans hk6.1 hs8, hk6.2.trans (hm8.mono hk6.1)⟩
        have hk13 := hk8.below (hm13.mono hk8.1)
        clear hm12 hm11 hb12 hb13
        go_wp2_with (first
          | (at_builtin; refine wp_app u8ty rfl (.tmp 89) (.tmp 92) rfl rfl rfl hf13 ho13.rd (bv_one _) (by omega) (by omega) hk13.1 ?_; intro A14 N14 C14 w14 ho14 hN14 hb14 hg14; have hk14 := hk13.below hb14; have ht14 := ht13.kept hg14.1 (apart hta hfr))
          | (at_builtin; refine wp_app u8ty rfl (.tmp 93) (.tmp 94) rfl rfl rfl ho14 ht14.rd (bv_one _) (by omega) (by omega) hk14.1 ?_; intro A15 N15 C15 w15 ho15 hN15 hb15 _; have hk15 := hk14.below hb15)
          | fail)
        have hfin : Ow w15 (g2 + 1) 5 A15 N15 C15 (bv (putB p)) := by
          have e : bv (putB p) = (bv (frontB p) ++ bv (bigB ((inet [blankB p] : Nat) : Int) 2)) ++ bv (tailB p) := by
            unfold putB
            rw [bv_app, bv_app]
            rfl
          rw [e]
          exact ho15
        go_ret2
        refine ⟨_, _, _, by rw [chk_ok Hok.out]; rfl, ?_, ?_⟩
        · rw [He.out]
          exact hfin.base (by rw [← Hg.out]; omega)
        · rw [← Hg.out]
          exact HB.out.trans ((HK2.out.2.mono (by omega)).trans (hk15.2.mono (by omega)))
  · have e0 := chk_no hok
    have he0 : putR p = [] := if_neg hok
    have He := Lib.hid he0
    have Hok := Lib.hid hok
    clear hok he0
    have hck := rcheck_any p A n c
    rw [e0] at hck
    have HC := Lib.hid hck
    have E0 := Lib.hid e0
    clear hck e0
    go_enter Try.func16, Try.ntmps16
    go_upto_region 1 with fail
    have hW2 : w.alloc (.cells #[.int .i64 p.src, .int .i64 p.dst, .int .i64 p.sport, .int .i64 p.dport, .int .u32 p.seq, .int .u32 p.ack, .int .i64 p.flags, .int .i64 p.window, .int .i64 p.probe, .int .i64 p.origin, .slice A n c] 25) = W := HW.out.symm
    rw [hW2, ← Hg.out]
    clear hW2
    go_wp2_with fail
    refine (HC.out W Hl.out hn).mono ?_
    rintro e w1 ⟨rfl, hb1⟩
    have hk1 : Kp g W w1 := hk0.below (by rw [← Hs.out]; exact hb1)
    clear hb1
    go_wp2_with fail
    go_ret2
    refine ⟨none, 0, 0, by rw [chk_no Hok.out]; rfl, ?_, ?_⟩
    · rw [He.out]
      exact Ow.nil _ _ _
    · rw [← Hg.out]
      exact HB.out.trans (hk1.2.mono (by omega))
end Go.Proofs.Ytjpdamighffgfaa.pk
