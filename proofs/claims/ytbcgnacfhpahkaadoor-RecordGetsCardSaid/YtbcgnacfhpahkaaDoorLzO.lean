/- The document's Look: the number with which bytes begin. -/
import Derived.Test.YtbcgnacfhpahkaaDoorLoR
import Derived.Deep.RegionHeld3
namespace Go.Proofs.YtbcgnacfhpahkaaDoor.oct
open Go.RowKit Mem OM
set_option linter.unusedVariables false
theorem lead_le (X j : Nat) (hX : X < 256) (hj : j < 8) : lead (j + 1) ≤ X ↔ j + 1 ≤ ones X := by
  have key : ∀ X : Fin 256, ∀ j : Fin 8, decide (lead (j.val + 1) ≤ X.val) = decide (j.val + 1 ≤ ones X.val) := by decide +kernel
  have := key ⟨X, hX⟩ ⟨j, hj⟩
  simpa using this
theorem prt_ge {l : List UInt8} {x : UInt8} {r : List UInt8} {k : Nat} (hl : l = x :: r) (hk : ones x.toNat = k) (j : Nat) : ∀ d, j + d ≤ r.length → 256 ^ d * prt l k j ≤ prt l k (j + d)
  | 0, _ => by simp
  | d + 1, h => by
    have ih := prt_ge hl hk j d (by omega)
    have := (part_step (l := l) (k := k) (j := j + d) hl hk (by omega)).1
    rw [← Nat.add_assoc, this, Nat.pow_succ]
    have h2 : 256 ^ d * 256 * prt l k j = 256 * (256 ^ d * prt l k j) := by
      rw [Nat.mul_comm (256 ^ d) 256, Nat.mul_assoc]
    omega
def LookPost (l : List UInt8) (w : World) (e : Ending) (w' : World) : Prop := e = .returned (.tuple #[.int .i64 ((lk l).1 : Nat), .int .i64 ((lk l).2.1 : Nat), .int .i64 ((lk l).2.2 : Nat)]) ∧ Below w.heap.size w w'
theorem below_drewN {B : Nat} {w w1 : World} (h : Below B w w1) (n : Nat) : Below B w (w1.drewN n) := ⟨h.os, h.tape, h.output, h.size, h.block⟩
theorem below_drew {B : Nat} {w w1 : World} (h : Below B w w1) : Below B w w1.drew := ⟨h.os, h.tape, h.output, h.size, h.block⟩
set_option maxRecDepth 50000 in
set_option maxHeartbeats 4000000 in
theorem refLook_any (A : Option Addr) (n c C : Nat) (l : List UInt8) (w : World) (hr : Rd w C A n (bv l)) (hC : C ≤ w.heap.size) (hc : n ≤ c) (hn : n ≤ 1099511627776) :
    Calls Tryd.prog 64 #[.slice A n c] w (LookPost l w) := by
  have hl : l.length = n := by rw [← hr.len, bv_len]
  unfold LookPost
  cases l with
  | nil =>
    simp at hl
    subst hl
    clear hr
    go_enter Tryd.func64, Tryd.ntmps64
    go_wp2_with fail
    go_ret3
    exact ⟨rfl, Below.refl _ _⟩
  | cons x r =>
    have hp : 0 < n := by simp at hl; omega
    have hrl : r.length + 1 = n := by simpa using hl
    have hpi : ¬ ((n : Int) = 0) := by omega
    obtain ⟨b1, o1, rfl, hb1, hc1⟩ := hr.addr hp
    have hbl : b1 < w.heap.size := by omega
    have hcs : ∀ y, Below w.heap.size w y → ∀ i, (h : i < r.length) → y.cell? ⟨b1, o1 + (i + 1), none⟩ = some (.int .u8 ((r[i].toNat : Nat) : Int)) := fun y hy i h => by
      rw [(hy.cell (p := ⟨b1, o1 + (i + 1), none⟩) hbl), hc1 (i + 1) (by omega), bv_at _ (i + 1) (by simp; omega)]
      rfl
    have hrd : ∀ y, Below w.heap.size w y → Rd y C (some ⟨b1, o1, none⟩) n (bv (x :: r)) := fun y hy => hr.below hy hC
    have hx := x.toNat_lt
    obtain ⟨k, hk⟩ : ∃ k, ones x.toNat = k := ⟨_, rfl⟩
    have h8 : k ≤ 8 := by rw [← hk]; exact ones_le _
    have hlo := lead_ones x.toNat hx
    have hle := fun j hj => lead_le x.toNat j hx hj
    rw [hk] at hlo hle
    have hlk := look_cons x r
    rw [hk] at hlk
    obtain ⟨X, hX⟩ : ∃ X, x.toNat = X := ⟨_, rfl⟩
    rw [hX] at hlo hle hx
    have HC : Hid (∀ y, Below w.heap.size w y → y.cell? ⟨b1, o1, none⟩ = some (.int .u8 (X : Int))) := Lib.hid (fun y hy => by
      have := (hy.cell (p := ⟨b1, o1 + 0, none⟩) hbl).trans (hc1 0 hp)
      rw [Nat.add_zero, bv_at _ 0 (by simp)] at this
      rw [this, ← hX]
      rfl)
    have HCS := Lib.hid hcs
    have HRD := Lib.hid hrd
    have HX := Lib.hid (And.intro hX hk)
    have HLE := Lib.hid hle
    have HLK := Lib.hid hlk
    have HLO := Lib.hid hlo
    clear hr hc1 hcs hrd hX hk hle hlk hlo hl
    go_enter Tryd.func64, Tryd.ntmps64
    go_wp2_with fail
    go_loopw [5] (fun a5 wr => ∃ j : Nat, a5 = .int .i64 (j : Nat) ∧ j ≤ k ∧ Hid (Below w.heap.size w wr)) (fun a5 _ => 9 - (intOf a5).toNat)
    case atStart => exact ⟨0, rfl, Nat.zero_le _, Lib.hid (Below.refl _ _)⟩
    case round =>
      obtain ⟨j, rfl, hj, HB⟩ := hrel
      have c0 := HC.out _ HB.out
      by_cases hj8 : j < 8
      · have hji : (j : Int) < 8 := by omega
        have hl1 := HLE.out j hj8
        have hlead := fun y => (refLead_any ((j : Int) + 1) y (by omega) (by omega))
        rw [show ((j : Int) + 1).toNat = j + 1 by omega] at hlead
        obtain ⟨M, hM⟩ : ∃ M, lead (j + 1) = M := ⟨_, rfl⟩
        rw [hM] at hl1 hlead
        have HLD := Lib.hid hlead
        clear hlead hM
        by_cases hjk : j < k
        · have hMX : (M : Int) ≤ (X : Int) := by omega
          go_wp2_with fail
          go_quiet ((go_at_call 68; exact Calls.quiet_of_same ((HLD.out _).mono fun _ _ ⟨h, e⟩ => ⟨h, e.symm⟩)))
          have HB2 := Lib.hid (below_drewN HB.out nq)
          generalize wr.drewN nq = wr2 at *
          go_wp2_with fail
          go_roundw
          case rel => exact ⟨j + 1, by go_num, by omega, HB2⟩
          case measure => simp only [intOf]; omega
        · obtain rfl : j = k := by omega
          have hMX : ¬ (M : Int) ≤ (X : Int) := by omega
          go_wp2_with fail
          go_quiet ((go_at_call 68; exact Calls.quiet_of_same ((HLD.out _).mono fun _ _ ⟨h, e⟩ => ⟨h, e.symm⟩)))
          have HB2 := Lib.hid (below_drewN HB.out nq)
          generalize wr.drewN nq = wr2 at *
          clear hj HB c0
          by_cases hs : r.length < j
          · have hsi : (n : Int) < (j : Int) + 1 := by omega
            have hlk := HLK.out
            rw [if_pos hs] at hlk
            have HL2 := Lib.hid hlk
            clear hlk
            go_wp2_with fail
            go_ret3
            rw [HL2.out]
            exact ⟨rfl, HB2.out⟩
          · have hsi : ¬ (n : Int) < (j : Int) + 1 := by omega
            have hlk := HLK.out
            rw [if_neg hs] at hlk
            have HL2 := Lib.hid hlk
            clear hlk
            have hlead := fun y => (refLead_any (j : Int) y (by omega) (by omega))
            rw [Int.toNat_natCast] at hlead
            obtain ⟨Z, hZ⟩ : ∃ Z, lead j = Z := ⟨_, rfl⟩
            have hzx : Z ≤ X := by rw [← hZ]; exact HLO.out.1
            have hp0 : prt (x :: r) j 0 = X - Z := by rw [prt_zero, HX.out.1, hZ]
            rw [hZ] at hlead
            have HLD2 := Lib.hid hlead
            have HP0 := Lib.hid hp0
            have c02 := HC.out _ HB2.out
            have hxz : (X : Int) - (Z : Int) = ((X - Z : Nat) : Int) := by omega
            clear hlead hZ hp0
            go_wp2_with fail
            go_quiet ((go_at_call 68; exact Calls.quiet_of_same ((HLD2.out _).mono fun _ _ ⟨h, e⟩ => ⟨h, e.symm⟩)))
            have HB3 := Lib.hid (below_drewN HB2.out nq)
            generalize wr2.drewN nq = wr3 at *
            clear c02 HB2 HLD2
            go_wp2_with fail
            go_loopw [6, 7] (fun m6 i7 wx => wx = wr3 ∧ ∃ m q : Nat, m6 = .int .i64 (m : Nat) ∧ i7 = .int .i64 ((q + 1 : Nat) : Int) ∧ q ≤ j ∧ m < 9223372036854775808 ∧ Hid (m = prt (x :: r) j q)) (fun _ i7 _ => 10 - (intOf i7).toNat)
            case atStart => exact ⟨rfl, X - Z, 0, rfl, rfl, Nat.zero_le _, by omega, Lib.hid HP0.out.symm⟩
            case round =>
              obtain ⟨rfl, m, q, rfl, rfl, hq, hm, Hm⟩ := hrel
              by_cases hqk : q < j
              · have hqi : ((q + 1 : Nat) : Int) ≤ (j : Int) := by omega
                by_cases hbig : 36028797018963968 ≤ m
                · have hbi : (36028797018963968 : Int) ≤ (m : Int) := by omega
                  have hge := prt_ge (l := x :: r) (k := j) rfl HX.out.2 q (j - q) (by omega)
                  rw [show q + (j - q) = j by omega, part_last, ← Hm.out] at hge
                  have hraw : 9223372036854775807 < raw (x :: r) j := by
                    have h1 : 256 ^ 1 ≤ 256 ^ (j - q) := Nat.pow_le_pow_right (by omega) (by omega)
                    have h2 : 256 * 36028797018963968 ≤ 256 ^ (j - q) * m := Nat.mul_le_mul (by omega) hbig
                    omega
                  have hlk := HL2.out
                  rw [if_pos hraw] at hlk
                  have HL3 := Lib.hid hlk
                  clear hlk hge hraw
                  go_wp2_with fail
                  go_ret3
                  rw [HL3.out]
                  exact ⟨rfl, HB3.out⟩
                · have hbi : ¬ (36028797018963968 : Int) ≤ (m : Int) := by omega
                  have hqr : q < r.length := by omega
                  have hst := (part_step (l := x :: r) (k := j) (j := q) rfl HX.out.2 hqr).1
                  have hcq := HCS.out _ HB3.out q hqr
                  obtain ⟨z, hz⟩ : ∃ z, (r[q]).toNat = z := ⟨_, rfl⟩
                  have hzj8 : z < 256 := by rw [← hz]; exact UInt8.toNat_lt _
                  rw [← Hm.out, hz] at hst
                  rw [hz] at hcq
                  have HST := Lib.hid hst
                  have hqn : ((q + 1 : Nat) : Int) < (n : Int) := by omega
                  have hqn2 : q + 1 < n := by omega
                  clear hst hz
                  go_wp2_with fail
                  go_roundw
                  case rel => exact ⟨trivial, 256 * m + z, q + 1, by go_num, by go_num, by omega, by omega, Lib.hid HST.out.symm⟩
                  case measure => simp only [intOf]; omega
              · have hqi : ¬ ((q + 1 : Nat) : Int) ≤ (j : Int) := by omega
                obtain rfl : q = j := by omega
                have hr1 : raw (x :: r) q = m := by rw [← part_last, Hm.out]
                have hlk := HL2.out
                rw [hr1, if_neg (by omega)] at hlk
                have HL3 := Lib.hid (And.intro hlk hr1)
                clear hlk hr1
                go_wp2_with fail
                obtain ⟨P, hP⟩ : ∃ P, (x :: r).take (q + 1) = P := ⟨_, rfl⟩
                have hstr : ∀ y, Below w.heap.size w y → (convert 24 9 (.slice (some ⟨b1, o1, none⟩) (q + 1) c)).run Tryd.prog y = .ok (.string (bs P)) y := fun y hy => by
                  have h1 := (HRD.out y hy).cut (l := 0) (m := q + 1) (by omega) (A' := some ⟨b1, o1, none⟩) (fun _ => by simp [Addr.add_lit])
                  rw [List.drop_zero, ← bv_take, hP] at h1
                  exact run_string Tryd.underlying24 Tryd.underlying5 Tryd.underlying9 h1 c
                have HST := Lib.hid hstr
                have HPP := Lib.hid hP
                have hwq : IntKind.i64.wrap ((q : Int) + 1) = (q : Int) + 1 := by rw [IntKind.wrap_i64]; omega
                have hq0 : ¬ ((q : Int) + 1 < 0) := by omega
                clear hP
                clear hstr
                have hkc : q + 1 ≤ c := by omega
                have hkn : (q : Int) + 1 ≤ (c : Int) := by omega
                refine wp_region_held_drew (S := fun y => Below w.heap.size w y) (by kernel_rfl) (below_drew HB3.out) (fun hHeld => ?_)
                refine wpAnyH_take (i := 0) (v := .int .i64 (m : Nat)) rfl (by kernel_rfl) (by kernel_rfl) (by kernel_rfl) (fun _ _ _ h => h) (Or.inl ⟨by rfl, ?hyj0⟩) (by assumption) ?restj0
                case hyj0 => (intro w hSw; (try dsimp only at hSw); go_split_ands; go_simp; try with_reducible rfl)
                try simp only [Act.put]
                refine wpAnyH_take (i := 3) (v := .slice (some ⟨b1, o1, none⟩) n c) rfl (by kernel_rfl) (by kernel_rfl) (by kernel_rfl) (fun _ _ _ h => h) (Or.inl ⟨by rfl, ?hyj3⟩) (by assumption) ?restj3
                case hyj3 => (intro w hSw; (try dsimp only at hSw); go_split_ands; go_simp; try with_reducible rfl)
                try simp only [Act.put]
                refine wpAnyH_take (i := 4) (v := .int .i64 (q : Nat)) rfl (by kernel_rfl) (by kernel_rfl) (by kernel_rfl) (fun _ _ _ h => h) (Or.inl ⟨by rfl, ?hyj4⟩) (by assumption) ?restj4
                case hyj4 => (intro w hSw; (try dsimp only at hSw); go_split_ands; go_simp; try with_reducible rfl)
                try simp only [Act.put]
                refine wpAnyH_take (i := 5) (v := .int .i64 ((q : Nat) + 1)) rfl (by kernel_rfl) (by kernel_rfl) (by kernel_rfl) (fun _ _ _ h => h) (Or.inl ⟨by rfl, ?hyj5⟩) (by assumption) ?restj5
                case hyj5 => (intro w hSw; (try dsimp only at hSw); go_split_ands; go_simp; try with_reducible rfl)
                try simp only [Act.put]
                refine wpAnyH_take (i := 6) (v := .slice (some ⟨b1, o1, none⟩) (q + 1) c) rfl (by kernel_rfl) (by kernel_rfl) (by kernel_rfl) (fun _ _ _ h => h) (Or.inl ⟨by rfl, ?hyj6⟩) (by assumption) ?restj6
                case hyj6 => (intro w hSw; (try dsimp only at hSw); go_split_ands; go_simp; try with_reducible rfl)
                try simp only [Act.put]
                refine wpAnyH_take (i := 7) (v := .string (bs P)) rfl (by kernel_rfl) (by kernel_rfl) (by kernel_rfl) (fun _ _ _ h => h) (Or.inl ⟨by rfl, ?hyj7⟩) (by assumption) ?restj7
                case hyj7 => (intro y hSw; have hs7 := HST.out y hSw; go_simp)
                try simp only [Act.put]
                refine wpAnyH_ready (rs := [1]) (by kernel_rfl) (by simp) ?_
                refine AllReadyH.cons rfl (fun K hK => ?_) AllReadyH.nil
                go_simp
                refine (refNumber_any none 0 0 0 (m : Nat) [] _ (Rd.nil _ _ _) (Nat.zero_le _) (by omega) (by omega) (by omega)).mono ?_
                rintro e w4 ⟨A4, N4, c4, rfl, ho4, hb4⟩
                rw [List.nil_append, Int.toNat_natCast] at ho4
                have hb4w : Below w.heap.size w w4 := (below_drew HB3.out).trans (hb4.mono (below_drew HB3.out).size)
                have hs4 := run_string Tryd.underlying24 Tryd.underlying5 Tryd.underlying9 ho4.rd c4
                have HS4 := Lib.hid (And.intro hs4 hb4w)
                clear hs4 ho4 hb4
                go_wp2_with fail
                refine hK.out _ _ hb4w (fun hHeld2 => ?_)
                clear hK K
                try simp only [Act.put]
                refine wpAnyH_ready (rs := [2]) (by kernel_rfl) (by simp) ?_
                refine AllReadyH.cons rfl (fun K hK => ?_) AllReadyH.nil
                have hs4 := HS4.out.1
                go_simp
                refine hK.out _ _ hb4w (fun hHeld3 => ?_)
                clear hK K hs4
                try simp only [Act.put]
                by_cases hf : fol m = q
                · have hlk := HL3.out.1
                  rw [if_neg (by omega)] at hlk
                  have htk := (look_ok hlk).1
                  rw [HPP.out] at htk
                  have HL4 := Lib.hid (And.intro hlk htk)
                  clear hlk htk
                  refine wpAnyH_take (i := 8) (v := .bool false) rfl (by kernel_rfl) (by kernel_rfl) (by kernel_rfl) (fun _ _ _ h => h) (Or.inl ⟨by rfl, ?hyj8⟩) (by assumption) ?restj8
                  case hyj8 =>
                    intro y hSw
                    have h9 := HL4.out.2
                    go_simp
                  try simp only [Act.put]
                  refine wpAnyH_done (by kernel_rfl) ?_ _
                  clear hHeld hHeld2 hHeld3
                  go_wp2_with fail
                  go_ret3
                  rw [HL4.out.1]
                  exact ⟨rfl, HS4.out.2⟩
                · have hlk := HL3.out.1
                  rw [if_pos hf] at hlk
                  have hne : bs (numB m) ≠ bs P := fun e => hf (by
                    have h1 := congrArg List.length (bs_inj e)
                    rw [numB_len, ← HPP.out, List.length_take] at h1
                    simp only [List.length_cons] at h1
                    omega)
                  have hn2 : ((bs (numB m)).toList == (bs P).toList) = false := by
                    rw [bs_toList, bs_toList]
                    simp only [beq_eq_false_iff_ne, ne_eq]
                    exact fun e => hne (by rw [e])
                  have HL4 := Lib.hid (And.intro hlk (And.intro hne hn2))
                  clear hlk hne hn2
                  refine wpAnyH_take (i := 8) (v := .bool true) rfl (by kernel_rfl) (by kernel_rfl) (by kernel_rfl) (fun _ _ _ h => h) (Or.inl ⟨by rfl, ?hzj8⟩) (by assumption) ?restzj8
                  case hzj8 =>
                    intro y hSw
                    have h9 := HL4.out.2.1
                    have h10 := HL4.out.2.2
                    go_simp
                  try simp only [Act.put]
                  refine wpAnyH_done (by kernel_rfl) ?_ _
                  clear hHeld hHeld2 hHeld3
                  go_wp2_with fail
                  go_ret3
                  rw [HL4.out.1]
                  exact ⟨rfl, HS4.out.2⟩
      · obtain rfl : j = 8 := by omega
        obtain rfl : k = 8 := by omega
        go_wp2_with fail
        go_quiet (fail)
        have HB2 := Lib.hid (below_drewN HB.out nq)
        generalize wr.drewN nq = wr2 at *
        clear hj HB c0
        by_cases hs : r.length < 8
        · have hsi : (n : Int) < (8 : Int) + 1 := by omega
          have hlk := HLK.out
          rw [if_pos hs] at hlk
          have HL2 := Lib.hid hlk
          clear hlk
          go_wp2_with fail
          go_ret3
          rw [HL2.out]
          exact ⟨rfl, HB2.out⟩
        · have hsi : ¬ (n : Int) < (8 : Int) + 1 := by omega
          have hlk := HLK.out
          rw [if_neg hs] at hlk
          have HL2 := Lib.hid hlk
          clear hlk
          have hlead := fun y => (refLead_any (8 : Int) y (by omega) (by omega))
          rw [show Int.toNat (8 : Int) = 8 from rfl] at hlead
          obtain ⟨Z, hZ⟩ : ∃ Z, lead 8 = Z := ⟨_, rfl⟩
          have hzx : Z ≤ X := by rw [← hZ]; exact HLO.out.1
          have hp0 : prt (x :: r) 8 0 = X - Z := by rw [prt_zero, HX.out.1, hZ]
          rw [hZ] at hlead
          have HLD2 := Lib.hid hlead
          have HP0 := Lib.hid hp0
          have c02 := HC.out _ HB2.out
          have hxz : (X : Int) - (Z : Int) = ((X - Z : Nat) : Int) := by omega
          clear hlead hZ hp0
          go_wp2_with fail
          go_quiet ((go_at_call 68; exact Calls.quiet_of_same ((HLD2.out _).mono fun _ _ ⟨h, e⟩ => ⟨h, e.symm⟩)))
          have HB3 := Lib.hid (below_drewN HB2.out nq)
          generalize wr2.drewN nq = wr3 at *
          clear c02 HB2 HLD2
          go_wp2_with fail
          go_loopw [6, 7] (fun m6 i7 wx => wx = wr3 ∧ ∃ m q : Nat, m6 = .int .i64 (m : Nat) ∧ i7 = .int .i64 ((q + 1 : Nat) : Int) ∧ q ≤ 8 ∧ m < 9223372036854775808 ∧ Hid (m = prt (x :: r) 8 q)) (fun _ i7 _ => 10 - (intOf i7).toNat)
          case atStart => exact ⟨rfl, X - Z, 0, rfl, rfl, Nat.zero_le _, by omega, Lib.hid HP0.out.symm⟩
          case round =>
            obtain ⟨rfl, m, q, rfl, rfl, hq, hm, Hm⟩ := hrel
            by_cases hqk : q < 8
            · have hqi : ((q + 1 : Nat) : Int) ≤ (8 : Int) := by omega
              by_cases hbig : 36028797018963968 ≤ m
              · have hbi : (36028797018963968 : Int) ≤ (m : Int) := by omega
                have hge := prt_ge (l := x :: r) (k := 8) rfl HX.out.2 q (8 - q) (by omega)
                rw [show q + (8 - q) = 8 by omega, part_last, ← Hm.out] at hge
                have hraw : 9223372036854775807 < raw (x :: r) 8 := by
                  have h1 : 256 ^ 1 ≤ 256 ^ (8 - q) := Nat.pow_le_pow_right (by omega) (by omega)
                  have h2 : 256 * 36028797018963968 ≤ 256 ^ (8 - q) * m := Nat.mul_le_mul (by omega) hbig
                  omega
                have hlk := HL2.out
                rw [if_pos hraw] at hlk
                have HL3 := Lib.hid hlk
                clear hlk hge hraw
                go_wp2_with fail
                go_ret3
                rw [HL3.out]
                exact ⟨rfl, HB3.out⟩
              · have hbi : ¬ (36028797018963968 : Int) ≤ (m : Int) := by omega
                have hqr : q < r.length := by omega
                have hst := (part_step (l := x :: r) (k := 8) (j := q) rfl HX.out.2 hqr).1
                have hcq := HCS.out _ HB3.out q hqr
                obtain ⟨z, hz⟩ : ∃ z, (r[q]).toNat = z := ⟨_, rfl⟩
                have hz88 : z < 256 := by rw [← hz]; exact UInt8.toNat_lt _
                rw [← Hm.out, hz] at hst
                rw [hz] at hcq
                have HST := Lib.hid hst
                have hqn : ((q + 1 : Nat) : Int) < (n : Int) := by omega
                have hqn2 : q + 1 < n := by omega
                clear hst hz
                go_wp2_with fail
                go_roundw
                case rel => exact ⟨trivial, 256 * m + z, q + 1, by go_num, by go_num, by omega, by omega, Lib.hid HST.out.symm⟩
                case measure => simp only [intOf]; omega
            · have hqi : ¬ ((q + 1 : Nat) : Int) ≤ (8 : Int) := by omega
              obtain rfl : q = 8 := by omega
              have hr1 : raw (x :: r) 8 = m := by rw [← part_last, Hm.out]
              have hlk := HL2.out
              rw [hr1, if_neg (by omega)] at hlk
              have HL3 := Lib.hid (And.intro hlk hr1)
              clear hlk hr1
              go_wp2_with fail
              obtain ⟨P, hP⟩ : ∃ P, (x :: r).take (8 + 1) = P := ⟨_, rfl⟩
              have hstr : ∀ y, Below w.heap.size w y → (convert 24 9 (.slice (some ⟨b1, o1, none⟩) (8 + 1) c)).run Tryd.prog y = .ok (.string (bs P)) y := fun y hy => by
                have h1 := (HRD.out y hy).cut (l := 0) (m := 8 + 1) (by omega) (A' := some ⟨b1, o1, none⟩) (fun _ => by simp [Addr.add_lit])
                rw [List.drop_zero, ← bv_take, hP] at h1
                exact run_string Tryd.underlying24 Tryd.underlying5 Tryd.underlying9 h1 c
              have HST := Lib.hid hstr
              have HPP := Lib.hid hP
              have hwq : IntKind.i64.wrap ((8 : Int) + 1) = (8 : Int) + 1 := by rw [IntKind.wrap_i64]; omega
              have hq0 : ¬ ((8 : Int) + 1 < 0) := by omega
              clear hP
              clear hstr
              have hkc : 8 + 1 ≤ c := by omega
              have hkn : (8 : Int) + 1 ≤ (c : Int) := by omega
              have hw9 : IntKind.i64.wrap 9 = 9 := by rw [IntKind.wrap_i64]; omega
              have hc9 : ¬ (c : Int) < 9 := by omega
              refine wp_region_held_drew (S := fun y => Below w.heap.size w y) (by kernel_rfl) (below_drew HB3.out) (fun hHeld => ?_)
              refine wpAnyH_take (i := 0) (v := .int .i64 (m : Nat)) rfl (by kernel_rfl) (by kernel_rfl) (by kernel_rfl) (fun _ _ _ h => h) (Or.inl ⟨by rfl, ?hy80⟩) (by assumption) ?rest80
              case hy80 => (intro w hSw; (try dsimp only at hSw); go_split_ands; go_simp; try with_reducible rfl)
              try simp only [Act.put]
              refine wpAnyH_take (i := 3) (v := .slice (some ⟨b1, o1, none⟩) n c) rfl (by kernel_rfl) (by kernel_rfl) (by kernel_rfl) (fun _ _ _ h => h) (Or.inl ⟨by rfl, ?hy83⟩) (by assumption) ?rest83
              case hy83 => (intro w hSw; (try dsimp only at hSw); go_split_ands; go_simp; try with_reducible rfl)
              try simp only [Act.put]
              refine wpAnyH_take (i := 4) (v := .int .i64 (8 : Nat)) rfl (by kernel_rfl) (by kernel_rfl) (by kernel_rfl) (fun _ _ _ h => h) (Or.inl ⟨by rfl, ?hy84⟩) (by assumption) ?rest84
              case hy84 => (intro w hSw; (try dsimp only at hSw); go_split_ands; go_simp; try with_reducible rfl)
              try simp only [Act.put]
              refine wpAnyH_take (i := 5) (v := .int .i64 ((8 : Nat) + 1)) rfl (by kernel_rfl) (by kernel_rfl) (by kernel_rfl) (fun _ _ _ h => h) (Or.inl ⟨by rfl, ?hy85⟩) (by assumption) ?rest85
              case hy85 => (intro w hSw; (try dsimp only at hSw); go_split_ands; go_simp; try with_reducible rfl)
              try simp only [Act.put]
              refine wpAnyH_take (i := 6) (v := .slice (some ⟨b1, o1, none⟩) (8 + 1) c) rfl (by kernel_rfl) (by kernel_rfl) (by kernel_rfl) (fun _ _ _ h => h) (Or.inl ⟨by rfl, ?hy86⟩) (by assumption) ?rest86
              case hy86 => (intro w hSw; (try dsimp only at hSw); go_split_ands; go_simp; try with_reducible rfl)
              try simp only [Act.put]
              refine wpAnyH_take (i := 7) (v := .string (bs P)) rfl (by kernel_rfl) (by kernel_rfl) (by kernel_rfl) (fun _ _ _ h => h) (Or.inl ⟨by rfl, ?hy87⟩) (by assumption) ?rest87
              case hy87 => (intro y hSw; have hs7 := HST.out y hSw; go_simp)
              try simp only [Act.put]
              refine wpAnyH_ready (rs := [1]) (by kernel_rfl) (by simp) ?_
              refine AllReadyH.cons rfl (fun K hK => ?_) AllReadyH.nil
              go_simp
              refine (refNumber_any none 0 0 0 (m : Nat) [] _ (Rd.nil _ _ _) (Nat.zero_le _) (by omega) (by omega) (by omega)).mono ?_
              rintro e w4 ⟨A4, N4, c4, rfl, ho4, hb4⟩
              rw [List.nil_append, Int.toNat_natCast] at ho4
              have hb4w : Below w.heap.size w w4 := (below_drew HB3.out).trans (hb4.mono (below_drew HB3.out).size)
              have hs4 := run_string Tryd.underlying24 Tryd.underlying5 Tryd.underlying9 ho4.rd c4
              have HS4 := Lib.hid (And.intro hs4 hb4w)
              clear hs4 ho4 hb4
              go_wp2_with fail
              refine hK.out _ _ hb4w (fun hHeld2 => ?_)
              clear hK K
              try simp only [Act.put]
              refine wpAnyH_ready (rs := [2]) (by kernel_rfl) (by simp) ?_
              refine AllReadyH.cons rfl (fun K hK => ?_) AllReadyH.nil
              have hs4 := HS4.out.1
              go_simp
              refine hK.out _ _ hb4w (fun hHeld3 => ?_)
              clear hK K hs4
              try simp only [Act.put]
              by_cases hf : fol m = 8
              · have hlk := HL3.out.1
                rw [if_neg (by omega)] at hlk
                have htk := (look_ok hlk).1
                rw [HPP.out] at htk
                have HL4 := Lib.hid (And.intro hlk htk)
                clear hlk htk
                refine wpAnyH_take (i := 8) (v := .bool false) rfl (by kernel_rfl) (by kernel_rfl) (by kernel_rfl) (fun _ _ _ h => h) (Or.inl ⟨by rfl, ?hy88⟩) (by assumption) ?rest88
                case hy88 =>
                  intro y hSw
                  have h9 := HL4.out.2
                  go_simp
                try simp only [Act.put]
                refine wpAnyH_done (by kernel_rfl) ?_ _
                clear hHeld hHeld2 hHeld3
                go_wp2_with fail
                go_ret3
                rw [HL4.out.1]
                exact ⟨rfl, HS4.out.2⟩
              · have hlk := HL3.out.1
                rw [if_pos hf] at hlk
                have hne : bs (numB m) ≠ bs P := fun e => hf (by
                  have h1 := congrArg List.length (bs_inj e)
                  rw [numB_len, ← HPP.out, List.length_take] at h1
                  simp only [List.length_cons] at h1
                  omega)
                have hn2 : ((bs (numB m)).toList == (bs P).toList) = false := by
                  rw [bs_toList, bs_toList]
                  simp only [beq_eq_false_iff_ne, ne_eq]
                  exact fun e => hne (by rw [e])
                have HL4 := Lib.hid (And.intro hlk (And.intro hne hn2))
                clear hlk hne hn2
                refine wpAnyH_take (i := 8) (v := .bool true) rfl (by kernel_rfl) (by kernel_rfl) (by kernel_rfl) (fun _ _ _ h => h) (Or.inl ⟨by rfl, ?hz88⟩) (by assumption) ?restz88
                case hz88 =>
                  intro y hSw
                  have h9 := HL4.out.2.1
                  have h10 := HL4.out.2.2
                  go_simp
                try simp only [Act.put]
                refine wpAnyH_done (by kernel_rfl) ?_ _
                clear hHeld hHeld2 hHeld3
                go_wp2_with fail
                go_ret3
                rw [HL4.out.1]
                exact ⟨rfl, HS4.out.2⟩
end Go.Proofs.YtbcgnacfhpahkaaDoor.oct
