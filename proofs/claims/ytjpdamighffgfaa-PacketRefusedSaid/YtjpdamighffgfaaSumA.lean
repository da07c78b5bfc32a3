/- Contracts of sums' small sum (total, fold, Inet, Valid, Update) and of the document's. -/
import Derived.Test.YtjpdamighffgfaaLib
import Derived.Test.YtjpdamighffgfaaSumMath
namespace Go.Proofs.Ytjpdamighffgfaa.sum
open Go.RowKit Mem SM lib

theorem fold_any (s : Nat) (w : World) (hs : s ≤ 1152921504606846976) :
    Calls Try.prog 45 #[.int .u64 (s : Int)] w fun e w' => e = .returned (.int .u16 (fd s : Nat)) ∧ w = w' := by
  go_enter Try.func45, Try.ntmps45
  go_wp2_with fail
  go_loop [0] (fun v => ∃ t : Nat, v = .int .u64 t ∧ t ≤ 1152921504606846976 ∧ Hid (fd t = fd s)) (fun v => (intOf v).toNat)
  case atStart => exact ⟨s, rfl, hs, rfl⟩
  case round =>
    obtain ⟨t, rfl, ht, Ht⟩ := hrel
    by_cases hlt : 65535 < t
    · have hand := and_word t (by omega)
      have hst := fd_step t hlt
      rw [Ht.out] at hst
      have Hst := Lib.hid hst
      clear hst
      go_wp2
      go_round
      case rel => exact ⟨t / 65536 + t % 65536, by simp, by omega, Hst.out⟩
      case measure => simp [intOf]; omega
    · have he := fd_small t (by omega)
      rw [Ht.out] at he
      have He := Lib.hid he
      clear he
      go_wp2
      go_ret
      exact ⟨ret_int (by rw [He.out]), rfl⟩

theorem fold_int (s : Int) (w : World) (h0 : 0 ≤ s) (hs : s ≤ 1152921504606846976) :
    Calls Try.prog 45 #[.int .u64 s] w fun e w' => e = .returned (.int .u16 (fd s.toNat : Nat)) ∧ w = w' := by
  obtain ⟨s, rfl⟩ := Int.eq_ofNat_of_zero_le h0
  exact fold_any s w (by omega)

/-- A slice of slices of bytes. -/
structure Parts (w : World) (B : Nat) (A : Option Addr) (n : Nat) (ls : List (List UInt8)) : Prop where
  len : ls.length = n
  rd : ∃ vs, Rd w B A n vs ∧ ∀ i (h : i < ls.length), ∃ Ai ci, vs[i]? = some (.slice Ai (ls[i]).length ci) ∧ (ls[i]).length ≤ ci ∧ Rd w B Ai (ls[i]).length (bv ls[i])
theorem Parts.below {w w' : World} {B n : Nat} {A : Option Addr} {ls : List (List UInt8)} (h : Parts w B A n ls) {B' : Nat} (hb : Below B' w w') (hB : B ≤ B') : Parts w' B A n ls := by
  obtain ⟨vs, h1, h2⟩ := h.rd
  exact ⟨h.len, vs, h1.below hb hB, fun i hi => by
    obtain ⟨Ai, ci, e, hc, hr⟩ := h2 i hi
    exact ⟨Ai, ci, e, hc, hr.below hb hB⟩⟩
theorem Parts.more {w : World} {B B' n : Nat} {A : Option Addr} {ls : List (List UInt8)} (h : Parts w B A n ls) (hB : B ≤ B') : Parts w B' A n ls := by
  obtain ⟨vs, h1, h2⟩ := h.rd
  exact ⟨h.len, vs, h1.more hB, fun i hi => by
    obtain ⟨Ai, ci, e, hc, hr⟩ := h2 i hi
    exact ⟨Ai, ci, e, hc, hr.more hB⟩⟩
theorem Parts.drewN {w : World} {B n : Nat} {A : Option Addr} {ls : List (List UInt8)} (h : Parts w B A n ls) (q : Nat) : Parts (w.drewN q) B A n ls := by
  obtain ⟨vs, h1, h2⟩ := h.rd
  exact ⟨h.len, vs, h1.drewN q, fun i hi => by
    obtain ⟨Ai, ci, e, hc, hr⟩ := h2 i hi
    exact ⟨Ai, ci, e, hc, hr.drewN q⟩⟩
/-- one part, as a call with one argument lays it -/
theorem Parts.one {w : World} {B : Nat} {A : Option Addr} {n c : Nat} {l : List UInt8} (hr : Rd w B A n (bv l)) (hc : n ≤ c) (hB : B ≤ w.heap.size) (t : TypeId) :
    Parts (w.alloc (.cells #[.slice A n c] t)) (w.heap.size + 1) (some ⟨w.heap.size, 0, none⟩) 1 [l] := by
  have hn : n = l.length := by rw [← hr.len, bv_len]
  subst hn
  refine ⟨rfl, [.slice A l.length c], Rd.one _ _ _, fun i hi => ?_⟩
  obtain rfl : i = 0 := by simpa using hi
  exact ⟨A, c, rfl, hc, (hr.below ((Below.refl B w).alloc hB _) (Nat.le_refl _)).more (Nat.le_trans hB (by omega))⟩
theorem Parts.at_ {w : World} {B n : Nat} {A : Option Addr} {ls : List (List UInt8)} (h : Parts w B A n ls) {k : Nat} (hk : k < n) :
    ∃ b off Ai ni ci l, A = some ⟨b, off, none⟩ ∧ b < B ∧ w.cell? ⟨b, off + k, none⟩ = some (.slice Ai ni ci) ∧ ni ≤ ci ∧ Rd w B Ai ni (bv l) ∧ (∃ h : k < ls.length, ls[k] = l) ∧ ni = l.length := by
  obtain ⟨vs, h1, h2⟩ := h.rd
  have hl := h.len
  obtain ⟨Ai, ci, e, hc, hr⟩ := h2 k (by omega)
  obtain ⟨b, off, rfl, hB, hcell⟩ := h1.at_ hk
  exact ⟨b, off, Ai, _, ci, _, rfl, hB, hcell.trans e, hc, hr, ⟨by omega, rfl⟩, rfl⟩

theorem total_any (A : Option Addr) (n c B : Nat) (ls : List (List UInt8)) (w : World) (h : Parts w B A n ls) (hn : n ≤ 1099511627776) (ht : tot ls ≤ 1099511627776) :
    Calls Try.prog 46 #[.slice A n c] w fun e w' => e = .returned (.int .u64 (ps ls : Nat)) ∧ ∃ q, w' = w.drewN q := by
  have Hl := Lib.hid h.len
  go_enter Try.func46, Try.ntmps46
  go_wp2_with fail
  go_loopw [3, 5, 6, 9] (fun s _ _ i wr => ∃ k q S : Nat, s = .int .u64 S ∧ i = .int .i64 k ∧ k ≤ n ∧ wr = w.drewN q ∧ S ≤ 72057594037927936 ∧ Hid (S = ps (ls.take k))) (fun _ _ _ i _ => n - (intOf i).toNat)
  case atStart => exact ⟨0, 0, 0, rfl, rfl, by omega, rfl, by omega, (rfl : 0 = ps [])⟩
  case round =>
    obtain ⟨k, q, S, rfl, rfl, hk, rfl, hS, HS⟩ := hrel
    by_cases hlt : k < n
    · obtain ⟨b, off, Ai, ni, ci, l, rfl, hbB, hcell, hci, hri, ⟨hkl, hel⟩, hni⟩ := h.at_ hlt
      have hlen : l.length ≤ 1099511627776 := by have := len_le_tot ls k hkl; rw [hel] at this; omega
      have hni2 : ni ≤ 1099511627776 := by omega
      have Hni := Lib.hid hni
      clear hlen hni
      go_wp2_with fail
      go_loopw [3, 6, 16] (fun s _ i wr => ∃ j q2 T : Nat, s = .int .u64 T ∧ i = .int .i64 j ∧ 2 * j ≤ ni ∧ wr = w.drewN q2 ∧ T ≤ 72057594037927936 ∧ Hid (T = S + ws true (l.take (2 * j)))) (fun _ _ i _ => ni - (intOf i).toNat)
      case atStart => exact ⟨0, q, S, rfl, rfl, by omega, rfl, hS, (by simp [ws] : S = S + ws true (l.take (2 * 0)))⟩
      case round =>
        obtain ⟨j, q2, T, rfl, rfl, hj, rfl, hT, HT⟩ := hrel
        by_cases hlt2 : (j : Int) < (ni : Int) / 2
        · obtain ⟨b2, o2, rfl, _, hc1⟩ := hri.at_ (show 2 * j < ni by omega)
          obtain ⟨_, _, e, _, hc2⟩ := hri.at_ (show 2 * j + 1 < ni by omega)
          obtain ⟨rfl, rfl⟩ : b2 = _ ∧ o2 = _ := by simpa using e
          clear e
          have hl1 : 2 * j + 1 < l.length := by have := Hni.out; omega
          rw [bv_at l (2 * j) (by omega)] at hc1
          rw [bv_at l (2 * j + 1) hl1] at hc2
          obtain ⟨x, hx⟩ : ∃ x, x = (l[2 * j]).toNat := ⟨_, rfl⟩
          obtain ⟨y, hy⟩ : ∃ y, y = (l[2 * j + 1]).toNat := ⟨_, rfl⟩
          rw [← hx] at hc1
          rw [← hy] at hc2
          have hx8 : x < 256 := by rw [hx]; exact UInt8.toNat_lt _
          have hy8 : y < 256 := by rw [hy]; exact UInt8.toNat_lt _
          have hT2 : T + (256 * x + y) = S + ws true (l.take (2 * (j + 1))) := by
            rw [show 2 * (j + 1) = 2 * j + 2 from by omega, ws_two j l hl1, HT.out, hx, hy]
            omega
          have hT3 : T + (256 * x + y) ≤ 72057594037927936 := by
            rw [hT2]
            exact part_bound ls k hkl l _ hel (by simp; omega) ht S HS.out
          have HT2 := Lib.hid hT2
          clear hT2 hx hy
          have f1 : IntKind.i64.wrap (2 * (j : Int)) = 2 * (j : Int) := IntWalk.i64_in _ (by omega)
          have f2 : IntKind.i64.wrap (2 * (j : Int) + 1) = 2 * (j : Int) + 1 := IntWalk.i64_in _ (by omega)
          have f3 : (2 * (j : Int)).toNat = 2 * j := by omega
          have f4 : (2 * (j : Int) + 1).toNat = 2 * j + 1 := by omega
          have f5 : 2 * (j : Int) < (ni : Int) := by omega
          have f6 : 2 * (j : Int) + 1 < (ni : Int) := by omega
          have f7 := or_word x y hx8 hy8
          have f8 : IntKind.u64.wrap ((T : Int) + ((x : Int) * 256 + (y : Int))) = (T : Int) + ((x : Int) * 256 + (y : Int)) := by rw [IntKind.wrap_u64]; omega
          go_wp2_with fail
          go_quiet (fail)
          go_wp2
          go_roundw
          case rel => exact ⟨j + 1, _, T + (256 * x + y), by simp; omega, by go_num, by omega, rfl, hT3, HT2.out⟩
          case measure => simp [intOf]; omega
        · by_cases hodd : ni % 2 = 1
          · have hlo : l.length = 2 * j + 1 := by have := Hni.out; omega
            obtain ⟨b2, o2, rfl, _, hc1⟩ := hri.at_ (show 2 * j < ni by omega)
            rw [bv_at l (2 * j) (by omega)] at hc1
            obtain ⟨x, hx⟩ : ∃ x, x = (l[2 * j]).toNat := ⟨_, rfl⟩
            rw [← hx] at hc1
            have hx8 : x < 256 := by rw [hx]; exact UInt8.toNat_lt _
            have hT2 : T + 256 * x = ps (ls.take (k + 1)) := by
              rw [ps_take ls k hkl l hel, ws_odd j l hlo, HT.out, HS.out, hx]
              omega
            have hT3 : T + 256 * x ≤ 72057594037927936 := by
              rw [hT2, ps_take ls k hkl l hel, ← HS.out]
              exact part_bound ls k hkl l l hel (by omega) ht S HS.out
            have HT2 := Lib.hid hT2
            clear hT2 hx
            have e1 : 2 * j = ni - 1 := by omega
            rw [e1] at hc1
            clear e1 hlo
            have f1 : (((ni : Int) % 2) == 1) = true := by rw [beq_iff_eq]; omega
            have f2 : ((ni : Int) - 1).toNat = ni - 1 := by omega
            have f8 : IntKind.u64.wrap ((T : Int) + (x : Int) * 256) = (T : Int) + (x : Int) * 256 := by rw [IntKind.wrap_u64]; omega
            have f3 : (ni : Int) - 1 < (ni : Int) := by omega
            have f4 : (0 : Int) ≤ (ni : Int) - 1 := by omega
            go_wp2
            go_roundw
            case rel => exact ⟨k + 1, q2, T + 256 * x, by simp; omega, by go_num, by omega, rfl, hT3, HT2.out⟩
            case measure => simp [intOf]; omega
          · have hT2 : T = ps (ls.take (k + 1)) := by
              rw [ps_take ls k hkl l hel, HT.out, ← HS.out, List.take_of_length_le (l := l) (i := 2 * j) (by have := Hni.out; omega)]
            have HT2 := Lib.hid hT2
            clear hT2
            have f1 : (((ni : Int) % 2) == 1) = false := by rw [beq_eq_false_iff_ne]; omega
            go_wp2
            go_roundw
            case rel => exact ⟨k + 1, q2, T, rfl, by go_num, by omega, rfl, hT, HT2.out⟩
            case measure => simp [intOf]; omega
    · have he : S = ps ls := by rw [HS.out, List.take_of_length_le (by have := Hl.out; omega)]
      have He := Lib.hid he
      clear he
      go_wp2
      go_ret
      exact ⟨ret_int (by rw [He.out]), q, rfl⟩

theorem inet_any (A : Option Addr) (n c B : Nat) (ls : List (List UInt8)) (w : World) (h : Parts w B A n ls) (hn : n ≤ 1099511627776) (ht : tot ls ≤ 1099511627776) :
    Calls Try.prog 36 #[.slice A n c] w fun e w' => e = .returned (.int .u16 (inet ls : Nat)) ∧ ∃ q, w' = w.drewN q := by
  have hp := ps_le ls
  have hf := fd_le (ps ls)
  go_enter Try.func36, Try.ntmps36
  go_wp2_with fail
  refine (total_any A n c B ls w h hn ht).mono ?_
  rintro e w1 ⟨rfl, q, rfl⟩
  go_wp2_with fail
  refine (fold_any _ _ (by omega)).mono ?_
  rintro e w2 ⟨rfl, rfl⟩
  have hx := not_u16 (fd (ps ls)) hf
  go_wp2_with fail
  go_ret
  exact ⟨ret_int (by unfold inet; rfl), q, rfl⟩

theorem valid_any (A : Option Addr) (n c B : Nat) (ls : List (List UInt8)) (w : World) (h : Parts w B A n ls) (hn : n ≤ 1099511627776) (ht : tot ls ≤ 1099511627776) :
    Calls Try.prog 41 #[.slice A n c] w fun e w' => e = .returned (.bool (decide (inet ls = 0 ∨ inet ls = 65535))) ∧ ∃ q, w' = w.drewN q := by
  have hp := ps_le ls
  have hf := fd_le (ps ls)
  obtain ⟨f, hfe⟩ : ∃ f, f = fd (ps ls) := ⟨_, rfl⟩
  rw [← hfe] at hf
  have hd : decide (inet ls = 0 ∨ inet ls = 65535) = decide (f = 0 ∨ f = 65535) := by
    unfold inet
    rw [← hfe]
    congr 1
    rw [eq_iff_iff]
    omega
  rw [hd]
  have HF := Lib.hid hfe
  clear hfe hd
  by_cases h0 : f = 0
  · have b1 : ((f : Int) == 0) = true := by rw [beq_iff_eq]; omega
    have H0 := Lib.hid h0
    clear h0
    go_enter Try.func41, Try.ntmps41
    go_wp2_with fail
    refine (total_any A n c B ls w h hn ht).mono ?_
    rintro e w1 ⟨rfl, q, rfl⟩
    go_wp2_with fail
    refine (fold_any _ _ (by omega)).mono ?_
    rintro e w2 ⟨rfl, rfl⟩
    rw [← HF.out]
    go_wp2
    go_ret
    exact ⟨ret_bool (by rw [H0.out]; rfl), q, rfl⟩
  · have b1 : ((f : Int) == 0) = false := by rw [beq_eq_false_iff_ne]; omega
    have e2 : decide (f = 0 ∨ f = 65535) = ((f : Int) == 65535) := by
      rw [Bool.eq_iff_iff]
      simp only [decide_eq_true_eq, beq_iff_eq]
      omega
    rw [e2]
    clear h0 e2
    go_enter Try.func41, Try.ntmps41
    go_wp2_with fail
    refine (total_any A n c B ls w h hn ht).mono ?_
    rintro e w1 ⟨rfl, q, rfl⟩
    go_wp2_with fail
    refine (fold_any _ _ (by omega)).mono ?_
    rintro e w2 ⟨rfl, rfl⟩
    rw [← HF.out]
    go_wp2
    go_ret
    exact ⟨rfl, q, rfl⟩


/-- the document's words added with carries -/
theorem refAdd_any (A : Option Addr) (n c B : Nat) (q : List Nat) (w : World) (h : Rd w B A n (iv (q.map fun (x : Nat) => (x : Int)))) (hn : n ≤ 1099511627776) (hq : ∀ x ∈ q, x ≤ 65535) :
    Calls Try.prog 48 #[.slice A n c] w fun e w' => e = .returned (.int .i64 (fd q.sum : Nat)) ∧ w = w' := by
  have Hl := Lib.hid h.len
  have Hq := Lib.hid hq
  clear hq
  go_enter Try.func48, Try.ntmps48
  go_wp2_with fail
  go_loop [3, 8] (fun s i => ∃ k S : Nat, s = .int .i64 S ∧ i = .int .i64 k ∧ k ≤ n ∧ S ≤ 72057594037927936 ∧ Hid (S = (q.take k).sum)) (fun _ i => n - (intOf i).toNat)
  case atStart => exact ⟨0, 0, rfl, rfl, by omega, by omega, (rfl : 0 = (q.take 0).sum)⟩
  case round =>
    obtain ⟨k, S, rfl, rfl, hk, hS, HS⟩ := hrel
    have hql : q.length = n := by have := Hl.out; rw [iv_len, List.length_map] at this; exact this
    by_cases hlt : k < n
    · obtain ⟨b, off, rfl, _, hc⟩ := h.at_ hlt
      have hkq : k < q.length := by omega
      rw [iv_at _ k (by simpa using hkq), List.getElem_map] at hc
      have hx := Hq.out q[k] (List.getElem_mem hkq)
      have hsum : S + q[k] = (q.take (k + 1)).sum := by
        rw [List.take_succ_eq_append_getElem hkq, List.sum_append, HS.out]; simp
      obtain ⟨x, hxe⟩ : ∃ x, x = q[k] := ⟨_, rfl⟩
      rw [← hxe] at hc hx hsum
      have hb := sum_le (q.take (k + 1)) (fun y hy => Hq.out y (List.mem_of_mem_take hy))
      rw [← hsum] at hb
      have hb2 : S + x ≤ 72057594037927936 := by
        have : (q.take (k + 1)).length ≤ n := by simp; omega
        have := Nat.mul_le_mul_left 65535 this
        omega
      have HX := Lib.hid hsum
      have HL := Lib.hid hql
      clear hsum hxe hb hql
      go_wp2
      go_round
      case rel => exact ⟨k + 1, S + x, by simp, by go_num, by omega, hb2, HX.out⟩
      case measure => simp [intOf]; omega
    · have he : S = q.sum := by rw [HS.out, List.take_of_length_le (by omega)]
      have HE := Lib.hid he
      have HL := Lib.hid hql
      clear he hql
      go_wp2
      go_loop [3] (fun v => ∃ t : Nat, v = .int .i64 t ∧ t ≤ 72057594037927936 ∧ Hid (fd t = fd q.sum)) (fun v => (intOf v).toNat)
      case atStart => exact ⟨S, rfl, hS, (by rw [HE.out] : fd S = fd q.sum)⟩
      case round =>
        obtain ⟨t, rfl, ht, Ht⟩ := hrel
        by_cases hlt : 65535 < t
        · have hst := fd_step t hlt
          rw [Ht.out] at hst
          have Hst := Lib.hid hst
          clear hst
          go_wp2
          go_round
          case rel => exact ⟨t / 65536 + t % 65536, by simp, by omega, Hst.out⟩
          case measure => simp [intOf]; omega
        · have he := fd_small t (by omega)
          rw [Ht.out] at he
          have He := Lib.hid he
          clear he
          go_wp2
          go_ret
          exact ⟨ret_int (by rw [He.out]), rfl⟩


def nv (l : List Nat) : List Value := iv (l.map fun (x : Nat) => (x : Int))
theorem nv_app (l r : List Nat) : nv (l ++ r) = nv l ++ nv r := by simp [nv, iv]
theorem nv_len (l : List Nat) : (nv l).length = l.length := by simp [nv, iv]
theorem nv_one (l : List Nat) : ∀ u ∈ nv l, u.oneCell' = true := iv_one _

theorem words_any (A : Option Addr) (n c B : Nat) (l : List UInt8) (w : World) (h : Rd w B A n (bv l)) (hB : B ≤ w.heap.size) (hn : n ≤ 1099511627776) :
    Calls Try.prog 47 #[.slice A n c] w fun e w' => ∃ A' N c', e = .returned (.slice A' N c') ∧ Ow w' w.heap.size 3 A' N c' (nv (wl l)) ∧ Below w.heap.size w w' := by
  have Hl := Lib.hid h.len
  go_enter Try.func47, Try.ntmps47
  go_wp2_with fail
  go_loopw [3, 4, 5] (fun v i _ wr => ∃ A2 N2 c2, ∃ j : Nat, v = .slice A2 N2 c2 ∧ i = .int .i64 (2 * (j : Int)) ∧ 2 * j ≤ n + 1 ∧ N2 ≤ j ∧ Ow wr w.heap.size 3 A2 N2 c2 (nv (wl (l.take (2 * j)))) ∧ Below w.heap.size w wr)
    (fun _ i _ _ => n + 1 - (intOf i).toNat)
  case atStart => exact ⟨none, 0, 0, 0, rfl, rfl, by omega, by omega, Ow.nil _ _ _, Below.refl _ _⟩
  case round =>
    obtain ⟨A2, N2, c2, j, rfl, rfl, hj, hN2, ho, hb⟩ := hrel
    have hll : l.length = n := by have := Hl.out; rw [bv_len] at this; exact this
    have hsz := hb.size
    by_cases hlt : 2 * j < n
    · obtain ⟨b1, o1, rfl, _, hc1⟩ := (h.below hb hB).at_ hlt
      rw [bv_at l (2 * j) (by omega)] at hc1
      obtain ⟨x, hx⟩ : ∃ x, x = (l[2 * j]).toNat := ⟨_, rfl⟩
      rw [← hx] at hc1
      have hx8 : x < 256 := by rw [hx]; exact UInt8.toNat_lt _
      have f3 : (2 * (j : Int)).toNat = 2 * j := by omega
      have f4 : (2 * (j : Int) + 1).toNat = 2 * j + 1 := by omega
      by_cases hlt2 : 2 * j + 1 < n
      · obtain ⟨_, _, e, _, hc2⟩ := (h.below hb hB).at_ hlt2
        obtain ⟨rfl, rfl⟩ : b1 = _ ∧ o1 = _ := by simpa using e
        clear e
        rw [bv_at l (2 * j + 1) (by omega)] at hc2
        obtain ⟨y, hy⟩ : ∃ y, y = (l[2 * j + 1]).toNat := ⟨_, rfl⟩
        rw [← hy] at hc2
        have hy8 : y < 256 := by rw [hy]; exact UInt8.toNat_lt _
        have hW : wl (l.take (2 * (j + 1))) = wl (l.take (2 * j)) ++ [256 * x + y] := by
          rw [show 2 * (j + 1) = 2 * j + 2 from by omega, wl_two j l (by omega), hx, hy]
        have HW := Lib.hid hW
        have HL := Lib.hid hll
        clear hW hx hy hll
        go_wp2_with (at_builtin; refine wp_app i64ty rfl (.tmp 31) (.tmp 33) rfl rfl rfl (ho.alloc _) (Rd.one _ _ _) (one1 rfl) (by omega) (by omega) (by simp; omega) ?_; intro A3 N3 c3 w3 ho3 hN3 hb3 hg3)
        have hb4 := (hb.alloc hsz (.cells #[.int .i64 (256 * (x : Int) + (y : Int))] 3)).trans hb3
        have ho4 : Ow w3 w.heap.size 3 A3 N3 c3 (nv (wl (l.take (2 * (j + 1))))) := by
          rw [HW.out, nv_app]
          exact ho3
        clear ho3 hb3 hg3
        go_roundw
        case rel => exact ⟨A3, N3, c3, j + 1, rfl, by go_num, by omega, by omega, ho4, hb4⟩
        case measure => simp [intOf]; omega
      · have hlo : l.length = 2 * j + 1 := by omega
        have hW : wl (l.take (2 * (j + 1))) = wl (l.take (2 * j)) ++ [256 * x] := by
          rw [List.take_of_length_le (i := 2 * (j + 1)) (by omega), wl_odd j l hlo, hx]
        have HW := Lib.hid hW
        have HL := Lib.hid hll
        clear hW hx hll hlo
        go_wp2_with (at_builtin; refine wp_app i64ty rfl (.tmp 31) (.tmp 33) rfl rfl rfl (ho.alloc _) (Rd.one _ _ _) (one1 rfl) (by omega) (by omega) (by simp; omega) ?_; intro A3 N3 c3 w3 ho3 hN3 hb3 hg3)
        have hb4 := (hb.alloc hsz (.cells #[.int .i64 (256 * (x : Int))] 3)).trans hb3
        have ho4 : Ow w3 w.heap.size 3 A3 N3 c3 (nv (wl (l.take (2 * (j + 1))))) := by
          rw [HW.out, nv_app]
          exact ho3
        clear ho3 hb3 hg3
        go_roundw
        case rel => exact ⟨A3, N3, c3, j + 1, rfl, by go_num, by omega, by omega, ho4, hb4⟩
        case measure => simp [intOf]; omega
    · rw [List.take_of_length_le (by omega)] at ho
      have HL := Lib.hid hll
      clear hll
      go_wp2
      go_ret
      exact ⟨_, _, _, rfl, ho, hb⟩

theorem refInet_any (A : Option Addr) (n c B : Nat) (ls : List (List UInt8)) (w : World) (h : Parts w B A n ls) (hB : B ≤ w.heap.size) (hn : n ≤ 1099511627776) (ht : tot ls ≤ 1099511627776) :
    Calls Try.prog 38 #[.slice A n c] w fun e w' => e = .returned (.int .u16 (inet ls : Nat)) ∧ Below w.heap.size w w' := by
  have Hl := Lib.hid h.len
  go_enter Try.func38, Try.ntmps38
  go_wp2_with fail
  go_loopw [3, 5, 8] (fun v _ i wr => ∃ A2 N2 c2, ∃ k : Nat, v = .slice A2 N2 c2 ∧ i = .int .i64 k ∧ k ≤ n ∧ N2 ≤ 1099511627776 ∧ Ow wr w.heap.size 3 A2 N2 c2 (nv (pl (ls.take k))) ∧ Below w.heap.size w wr)
    (fun _ _ i _ => n - (intOf i).toNat)
  case atStart => exact ⟨none, 0, 0, 0, rfl, rfl, by omega, by omega, Ow.nil _ _ _, Below.refl _ _⟩
  case round =>
    obtain ⟨A2, N2, c2, k, rfl, rfl, hk, hN2, ho, hb⟩ := hrel
    have hsz := hb.size
    by_cases hlt : k < n
    · obtain ⟨b, off, Ai, ni, ci, l, rfl, hbB, hcell, hci, hri, ⟨hkl, hel⟩, hni⟩ := (h.below hb hB).at_ hlt
      have hlen : l.length ≤ 1099511627776 := by have := len_le_tot ls k hkl; rw [hel] at this; omega
      have hni2 : ni ≤ 1099511627776 := by omega
      have Hni := Lib.hid hni
      clear hlen hni
      go_wp2_with fail
      refine (words_any _ _ _ _ l _ hri (by omega) hni2).mono ?_
      rintro e w3 ⟨A3, N3, c3, rfl, ho3, hb3⟩
      have hN3 : N3 ≤ ni := by
        have := ho3.len
        rw [nv_len] at this
        have := wl_len l
        have := Hni.out
        omega
      have ho' := ho.below hb3 (Nat.le_refl _)
      have hb3' := hb.trans (hb3.mono hsz)
      have hp : nv (pl (ls.take (k + 1))) = nv (pl (ls.take k)) ++ nv (wl l) := by
        rw [List.take_succ_eq_append_getElem hkl, pl_snoc, hel, nv_app]
      have hsmall : N2 + N3 ≤ 2199023255552 := by omega
      go_wp2_with (at_builtin; refine wp_app i64ty rfl (.tmp 12) (.tmp 14) rfl rfl rfl ho' ho3.rd (nv_one _) (by omega) (by omega) hb3'.size ?_; intro A4 N4 c4 w4 ho4 hN4 hb4 hg4)
      rw [← hp] at ho4
      have hN5 : N4 ≤ 1099511627776 := by
        have := ho4.len
        rw [nv_len] at this
        have := pl_len (ls.take (k + 1))
        have := tot_take_le ls (k + 1)
        omega
      have hb5 := hb3'.trans hb4
      clear hp hb4 hg4 ho3
      go_roundw
      case rel => exact ⟨A4, N4, c4, k + 1, rfl, by go_num, by omega, hN5, ho4, hb5⟩
      case measure => simp [intOf]; omega
    · rw [List.take_of_length_le (by have := Hl.out; omega)] at ho
      have hf := fd_le (ps ls)
      have x3 : IntKind.u16.wrap (65535 - (fd (pl ls).sum : Int)) = ((inet ls : Nat) : Int) := by
        unfold inet ps
        unfold ps at hf
        rw [IntKind.wrap_u16]
        omega
      obtain ⟨f, hfe⟩ : ∃ f, f = fd (pl ls).sum := ⟨_, rfl⟩
      unfold ps at hf
      rw [← hfe] at hf x3
      have HF := Lib.hid hfe
      clear hfe
      go_wp2_with fail
      refine (refAdd_any _ _ _ _ (pl ls) _ ho.rd hN2 (pl_le ls)).mono ?_
      rintro e w5 ⟨rfl, rfl⟩
      rw [← HF.out]
      go_wp2
      go_ret
      exact ⟨rfl, hb⟩
end Go.Proofs.Ytjpdamighffgfaa.sum
