/- The document's times. -/
import Derived.Test.YtagomegeeijfnaaDoorDgO
namespace Go.Proofs.YtagomegeeijfnaaDoor.dg
open Go.RowKit Mem DM
set_option linter.unusedVariables false
theorem dig_set (o : List Nat) (j v q : Nat) (hj : j < o.length) : dig (o.set j v) q = if q = j then v else dig o q := by
  unfold dig
  rw [List.getD_eq_getElem?_getD, List.getD_eq_getElem?_getD]
  by_cases h : q = j
  · subst h
    rw [if_pos rfl, List.getElem?_set_self hj]
    rfl
  · rw [if_neg h, List.getElem?_set_ne (fun e => h e.symm)]
theorem vN_congr (f g : Nat → Nat) : ∀ n, (∀ q, q < n → f q = g q) → vN f n = vN g n
  | 0, _ => rfl
  | n + 1, h => by
    have ih := vN_congr f g n (fun q hq => h q (by omega))
    show vN f n + f n * 65536 ^ n = vN g n + g n * 65536 ^ n
    rw [ih, h n (by omega)]
theorem vN_set (o : List Nat) (j v : Nat) (hj : j < o.length) : ∀ n, j < n → vN (dig (o.set j v)) n + dig o j * 65536 ^ j = vN (dig o) n + v * 65536 ^ j
  | 0, h => by omega
  | n + 1, h => by
    show vN (dig (o.set j v)) n + dig (o.set j v) n * 65536 ^ n + dig o j * 65536 ^ j = vN (dig o) n + dig o n * 65536 ^ n + v * 65536 ^ j
    rw [dig_set o j v n hj]
    by_cases e : n = j
    · subst e
      rw [if_pos rfl, vN_congr (dig (o.set n v)) (dig o) n (fun q hq => by rw [dig_set o n v q hj, if_neg (by omega)])]
      omega
    · rw [if_neg e]
      have ih := vN_set o j v hj n (by omega)
      omega
/-- a step along the digits -/
theorem times_step (V U P d y cy ai cur : Nat) (hcur : cur = d + ai * (y % 65536) + cy) (V' : Nat) (hV : V' + d * P = V + cur % 65536 * P) (h : V + (cy + ai * y) * P = U) : V' + (cur / 65536 + ai * (y / 65536)) * (P * 65536) = U := by
  have e1 : cur = 65536 * (cur / 65536) + cur % 65536 := (Nat.div_add_mod _ _).symm
  have e2 : y = 65536 * (y / 65536) + y % 65536 := (Nat.div_add_mod _ _).symm
  obtain ⟨q, hq⟩ : ∃ q, q = cur / 65536 := ⟨_, rfl⟩
  obtain ⟨r, hr⟩ : ∃ r, r = cur % 65536 := ⟨_, rfl⟩
  obtain ⟨s, hs⟩ : ∃ s, s = y / 65536 := ⟨_, rfl⟩
  obtain ⟨t, ht⟩ : ∃ t, t = y % 65536 := ⟨_, rfl⟩
  rw [← hq, ← hr] at e1
  rw [← hs, ← ht] at e2
  rw [← hr] at hV
  rw [← ht] at hcur
  rw [← hq, ← hs]
  have h2 : (65536 * q + r) * P = (d + ai * t + cy) * P := by rw [← e1, hcur]
  rw [e2] at h
  have h3 : ai * (65536 * s + t) = 65536 * (ai * s) + ai * t := by rw [Nat.mul_add, Nat.mul_left_comm]
  rw [h3] at h
  have k1 : (65536 * q + r) * P = 65536 * (q * P) + r * P := by rw [Nat.add_mul, Nat.mul_assoc]
  have k2 : (d + ai * t + cy) * P = d * P + ai * t * P + cy * P := by rw [Nat.add_mul, Nat.add_mul]
  have k3 : (cy + (65536 * (ai * s) + ai * t)) * P = cy * P + 65536 * (ai * s * P) + ai * t * P := by rw [Nat.add_mul, Nat.add_mul, Nat.mul_assoc]; omega
  have k4 : (q + ai * s) * (P * 65536) = 65536 * (q * P) + 65536 * (ai * s * P) := by rw [← Nat.mul_assoc, Nat.add_mul, Nat.add_mul]; omega
  rw [k1, k2] at h2
  rw [k3] at h
  rw [k4]
  omega
theorem times_end (a : List Nat) (ha : ∀ d ∈ a, d < 65536) (x i L V cy y ai : Nat) (hx : x < 281474976710656) (hi : i + 4 ≤ L) (hai : ai = dig a i) (h : V + (cy + ai * y) * 65536 ^ L = vN (dig a) i * x + ai * x * 65536 ^ i) : V = vN (dig a) (i + 1) * x := by
  have e : vN (dig a) (i + 1) * x = vN (dig a) i * x + ai * x * 65536 ^ i := by
    show (vN (dig a) i + dig a i * 65536 ^ i) * x = _
    rw [← hai, Nat.add_mul, Nat.mul_right_comm]
  rw [← e] at h
  have h1 := vN_lt (dig a) (dig_lt ha) (i + 1)
  have h2 : vN (dig a) (i + 1) * x < 65536 ^ (i + 1) * 65536 ^ 3 := Nat.mul_lt_mul_of_lt_of_le h1 (by simpa using Nat.le_of_lt hx) (by decide)
  rw [← Nat.pow_add] at h2
  have h3 : 65536 ^ (i + 1 + 3) ≤ 65536 ^ L := Nat.pow_le_pow_right (by decide) (by omega)
  rcases Nat.eq_zero_or_pos (cy + ai * y) with h0 | h0
  · rw [h0, Nat.zero_mul] at h
    omega
  · have h4 : 1 * 65536 ^ L ≤ (cy + ai * y) * 65536 ^ L := Nat.mul_le_mul_right _ h0
    omega
theorem set_lt {o : List Nat} (h : ∀ d ∈ o, d < 65536) (j v : Nat) (hv : v < 65536) : ∀ d ∈ o.set j v, d < 65536 := fun d hd => by
  rcases List.mem_or_eq_of_mem_set hd with h1 | h1
  · exact h d h1
  · omega
theorem nv_set (o : List Nat) (j v : Nat) : nv (o.set j v) = (nv o).set j (.int .i64 (v : Int)) := by
  unfold nv
  rw [List.map_set]
  rfl
theorem vN_zero (k : Nat) : ∀ n, vN (dig (List.replicate k 0)) n = 0
  | 0 => rfl
  | n + 1 => by
    show vN (dig (List.replicate k 0)) n + dig (List.replicate k 0) n * 65536 ^ n = 0
    have e : dig (List.replicate k 0) n = 0 := by
      unfold dig
      rw [List.getD_eq_getElem?_getD, List.getElem?_replicate]
      split <;> rfl
    rw [vN_zero k n, e]
    simp
set_option maxRecDepth 100000 in
set_option maxHeartbeats 4000000 in
theorem times_any (A : Option Addr) (n c B : Nat) (a : List Nat) (x : Nat) (w : World) (h : Rd w B A n (nv a)) (hB : B ≤ w.heap.size) (ha : ∀ d ∈ a, d < 65536) (hx : x < 281474976710656) (hn : n ≤ 1000) :
    Calls Tryd.prog 28 #[.slice A n c, .int .i64 x] w fun e w' => ∃ A' c' o, e = .returned (.slice A' (n + 4) c') ∧ Ow w' w.heap.size 3 A' (n + 4) c' (nv o) ∧ (∀ d ∈ o, d < 65536) ∧ vN (dig o) (n + 4) = vN (dig a) n * x ∧ Below w.heap.size w w' := by
  have HL := Lib.hid h.len
  have HA := Lib.hid ha
  have HR := Lib.hid h
  clear ha h
  go_enter Tryd.func28, Tryd.ntmps28
  go_wp2_with (refine wp_make i64ty rfl (.tmp 13) (.tmp 13) rfl rfl rfl (by omega) (Int.le_refl _) (by omega) (by omega) (Nat.le_refl w.heap.size) ?_; intro g m d w1 hm hd ho1 hb1 _ hg)
  subst hg
  obtain rfl : m = n + 4 := by omega
  obtain rfl : d = n + 4 := by omega
  have h0 : List.replicate (n + 4) (Value.int .i64 0) = nv (List.replicate (n + 4) 0) := by unfold nv; rw [List.map_replicate]; rfl
  rw [h0] at ho1
  have HO := Lib.hid (And.intro ho1 hb1)
  clear ho1 hb1 h0 hm hd
  go_loopw [6, 7, 8, 9, 10, 17] (fun _ _ _ _ _ q wr => ∃ (i : Nat) (o : List Nat), q = .int .i64 (i : Int) ∧ i ≤ n ∧ Ow wr w.heap.size 3 (some ⟨w.heap.size, 0, none⟩) (n + 4) (n + 4) (nv o) ∧ Below w.heap.size w wr ∧ Hid ((∀ d ∈ o, d < 65536) ∧ vN (dig o) (n + 4) = vN (dig a) i * x)) (fun _ _ _ _ _ q _ => n - (intOf q).toNat)
  case atStart => exact ⟨0, List.replicate (n + 4) 0, rfl, by omega, HO.out.1, HO.out.2, (⟨fun d hd => by rw [List.mem_replicate] at hd; omega, by rw [vN_zero]; simp [vN]⟩ : (∀ d ∈ List.replicate (n + 4) 0, d < 65536) ∧ vN (dig (List.replicate (n + 4) 0)) (n + 4) = vN (dig a) 0 * x)⟩
  case round =>
    obtain ⟨i, o, rfl, hi, ho, hb, HV⟩ := hrel
    by_cases hlt : i < n
    · have hii : (i : Int) < (n : Int) := by omega
      obtain ⟨wo, hwo⟩ : ∃ wo, wo = wr := ⟨_, rfl⟩
      subst hwo
      have HOB := Lib.hid (And.intro ho hb)
      clear ho hb
      go_wp2_with fail
      go_loopw [7, 8, 9, 10] (fun v c q _ wr => ∃ (j y cy : Nat) (o : List Nat), v = .int .i64 (y : Int) ∧ c = .int .i64 (cy : Int) ∧ q = .int .i64 (j : Int) ∧ j ≤ n + 4 ∧ y ≤ x ∧ cy ≤ 65535 ∧ Ow wr w.heap.size 3 (some ⟨w.heap.size, 0, none⟩) (n + 4) (n + 4) (nv o) ∧ Below w.heap.size w wr ∧ Hid ((∀ d ∈ o, d < 65536) ∧ vN (dig o) (n + 4) + (cy + dig a i * y) * 65536 ^ j = vN (dig a) i * x + dig a i * x * 65536 ^ i)) (fun _ _ q _ _ => n + 4 - (intOf q).toNat)
      case atStart => exact ⟨i, x, 0, o, rfl, rfl, rfl, by omega, Nat.le_refl _, by omega, HOB.out.1, HOB.out.2, (⟨HV.out.1, by rw [HV.out.2, Nat.zero_add]⟩ : (∀ d ∈ o, d < 65536) ∧ vN (dig o) (n + 4) + (0 + dig a i * x) * 65536 ^ i = vN (dig a) i * x + dig a i * x * 65536 ^ i)⟩
      case round =>
        clear HV HOB
        obtain ⟨j, y, cy, o, rfl, rfl, rfl, hj, hy, hcy, ho, hb, HV⟩ := hrel
        by_cases hj2 : j < n + 4
        · have hjj : (j : Int) < (n : Int) + 4 := by omega
          obtain ⟨b1, o1, rfl, hb1, hc1⟩ := (HR.out.below hb hB).at_ hlt
          have hal : i < a.length := by rw [← nv_len, HL.out]; exact hlt
          have hol : j < o.length := by have := ho.len; rw [nv_len] at this; omega
          rw [nv_at _ _ hal, dig_at] at hc1
          obtain ⟨p, hp⟩ : ∃ p, dig a i = p := ⟨_, rfl⟩
          obtain ⟨d, hd⟩ : ∃ d, dig o j = d := ⟨_, rfl⟩
          have hp2 : p < 65536 := by rw [← hp]; exact dig_lt HA.out i
          have hd2 : d < 65536 := by rw [← hd]; exact dig_lt HV.out.1 j
          obtain ⟨z, hz⟩ : ∃ z, y % 65536 = z := ⟨_, rfl⟩
          obtain ⟨k, hk⟩ : ∃ k, p * z = k := ⟨_, rfl⟩
          have hz2 : z ≤ 65535 := by omega
          have hk2 : k ≤ 65535 * 65535 := by rw [← hk]; exact Nat.mul_le_mul (by omega) hz2
          have hzi : (y : Int) % 65536 = (z : Int) := by omega
          have hki : (p : Int) * (z : Int) = (k : Int) := by rw [← hk]; simp
          rw [hp] at hc1
          have hco : wr.cell? ⟨w.heap.size, j, none⟩ = some (.int .i64 (d : Int)) := by
            have := (ho.set j (.int .i64 0) hj2).2.2.1
            rw [nv_at _ _ hol, dig_at, hd] at this
            exact this
          have HF := Lib.hid (And.intro hp (And.intro hd (And.intro hz hk)))
          have hol2 := Lib.hid hol
          have hy2 : y < 281474976710656 := by omega
          clear hp hd hz hk hal hol
          go_wp2_with fail
          go_quiet (fail)
          generalize hw4 : World.drewN wr _ = w4
          have ho4 : Ow w4 w.heap.size 3 (some ⟨w.heap.size, 0, none⟩) (n + 4) (n + 4) (nv o) := by rw [← hw4]; exact ho.drewN _
          have hb4 : Below w.heap.size w w4 := by rw [← hw4]; exact below_drewN hb _
          clear hw4 ho hb hc1 hco
          obtain ⟨r, hr⟩ : ∃ r, (d + k + cy) % 65536 = r := ⟨_, rfl⟩
          obtain ⟨q, hq⟩ : ∃ q, (d + k + cy) / 65536 = q := ⟨_, rfl⟩
          obtain ⟨y2, hy3⟩ : ∃ y2, y / 65536 = y2 := ⟨_, rfl⟩
          have hri : ((d : Int) + (k : Int) + (cy : Int)) % 65536 = (r : Int) := by omega
          have hqi : ((d : Int) + (k : Int) + (cy : Int)) / 65536 = (q : Int) := by omega
          have hyi : (y : Int) / 65536 = (y2 : Int) := by omega
          have hq2 : q ≤ 65535 := by omega
          have hr2 : r < 65536 := by omega
          have hy4 : y2 ≤ x := by omega
          obtain ⟨hs1, hs2, hs3, hs4⟩ := ho4.set j (.int .i64 (r : Int)) hj2
          rw [nv_at _ _ hol2.out, dig_at, HF.out.2.1] at hs3
          rw [← nv_set] at hs1
          have hb5 : Below w.heap.size w (w4.setCell ⟨w.heap.size, j, none⟩ (.int .i64 (r : Int))) := hb4.setCell (Nat.le_refl _) _
          have hmath := times_step _ _ (65536 ^ j) d y cy (dig a i) (d + k + cy) (by rw [HF.out.2.2.1, HF.out.1, HF.out.2.2.2]) (vN (dig (o.set j r)) (n + 4)) (by
            have := vN_set o j r hol2.out (n + 4) hj2
            rw [HF.out.2.1] at this
            rw [hr]
            exact this) HV.out.2
          rw [hq, hy3, ← Nat.pow_succ] at hmath
          have HS := Lib.hid (And.intro hs1 (And.intro hb5 (And.intro (set_lt HV.out.1 j r hr2) hmath)))
          clear hs1 hs2 hb5 hmath hr hq hy3 ho4 hb4
          go_wp2_with fail
          go_roundw
          case rel => exact ⟨j + 1, y2, q, o.set j r, rfl, by rw [hqi], by go_num, by omega, hy4, hq2, HS.out.1, HS.out.2.1, (⟨HS.out.2.2.1, HS.out.2.2.2⟩ : (∀ d ∈ o.set j r, d < 65536) ∧ vN (dig (o.set j r)) (n + 4) + (q + dig a i * y2) * 65536 ^ (j + 1) = vN (dig a) i * x + dig a i * x * 65536 ^ i)⟩
          case measure => simp [intOf]; omega
        · obtain rfl : j = n + 4 := by omega
          have hjj : ¬ (n : Int) + 4 < (n : Int) + 4 := by omega
          have hend := times_end a HA.out x i (n + 4) _ cy y (dig a i) hx (by omega) rfl HV.out.2
          have HS := Lib.hid (And.intro ho (And.intro hb (And.intro HV.out.1 hend)))
          clear hend ho hb
          go_wp2_with fail
          go_roundw
          case rel => exact ⟨i + 1, o, by go_num, by omega, HS.out.1, HS.out.2.1, (HS.out.2.2 : (∀ d ∈ o, d < 65536) ∧ vN (dig o) (n + 4) = vN (dig a) (i + 1) * x)⟩
          case measure => simp [intOf]; omega
    · obtain rfl : i = n := by omega
      have hii : ¬ (i : Int) < (i : Int) := by omega
      have HOB := Lib.hid (And.intro ho hb)
      clear ho hb
      go_wp2_with fail
      go_ret
      exact ⟨_, _, rfl, o, HOB.out.1, HV.out.1, HV.out.2, HOB.out.2⟩
end Go.Proofs.YtagomegeeijfnaaDoor.dg
