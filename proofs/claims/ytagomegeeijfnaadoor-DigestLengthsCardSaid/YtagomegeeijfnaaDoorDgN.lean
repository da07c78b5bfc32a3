/- The document's first primes. -/
import Derived.Test.YtagomegeeijfnaaDoorDgM
namespace Go.Proofs.YtagomegeeijfnaaDoor.dg
open Go.RowKit Mem DM
set_option linter.unusedVariables false
def pstep (ps : List Nat) (c : Nat) : List Nat := if ps.all (fun p => decide (c % p ≠ 0)) then ps ++ [c] else ps
def pl : Nat → List Nat
  | 0 => []
  | k + 1 => pstep (pl k) (k + 2)
def nv (l : List Nat) : List Value := l.map fun (p : Nat) => Value.int .i64 (Int.ofNat p)
theorem nv_len (l : List Nat) : (nv l).length = l.length := by simp [nv]
theorem nv_app (l r : List Nat) : nv (l ++ r) = nv l ++ nv r := by simp [nv]
theorem nv_one (l : List Nat) : ∀ u ∈ nv l, u.oneCell' = true := by
  intro u hu
  obtain ⟨x, _, rfl⟩ := List.mem_map.1 hu
  rfl
theorem nv_at (l : List Nat) (k : Nat) (h : k < l.length) : (nv l)[k]? = some (.int .i64 ((l[k] : Nat) : Int)) := by simp [nv, h]
theorem pstep_len (ps : List Nat) (c : Nat) : ps.length ≤ (pstep ps c).length ∧ (pstep ps c).length ≤ ps.length + 1 ∧ (pstep ps c).take ps.length = ps := by
  unfold pstep
  split
  · simp
  · simp
theorem pl_mono (k : Nat) : ∀ d, (pl k).length ≤ (pl (k + d)).length ∧ (pl (k + d)).take (pl k).length = pl k
  | 0 => by simp
  | d + 1 => by
    obtain ⟨h1, h2⟩ := pl_mono k d
    obtain ⟨g1, _, g3⟩ := pstep_len (pl (k + d)) (k + d + 2)
    have e : pl (k + (d + 1)) = pstep (pl (k + d)) (k + d + 2) := rfl
    rw [e]
    refine ⟨by omega, ?_⟩
    have : (pstep (pl (k + d)) (k + d + 2)).take (pl k).length = ((pstep (pl (k + d)) (k + d + 2)).take (pl (k + d)).length).take (pl k).length := by
      rw [List.take_take, Nat.min_eq_left h1]
    rw [this, g3, h2]
theorem pl_two (k : Nat) : ∀ p ∈ pl k, 2 ≤ p ∧ p ≤ k + 1 := by
  induction k with
  | zero => simp [pl]
  | succ k ih =>
    intro p hp
    have e : pl (k + 1) = pstep (pl k) (k + 2) := rfl
    rw [e] at hp
    unfold pstep at hp
    split at hp
    · rcases List.mem_append.1 hp with h | h
      · have := ih p h; omega
      · have : p = k + 2 := by simpa using h
        omega
    · have := ih p hp; omega
theorem pl_full : (pl 310).length = 64 := by decide +kernel
theorem pl_need (k n : Nat) (hn : n ≤ 64) (h : (pl k).length < n) : k < 310 := by
  rcases Nat.lt_or_ge k 310 with h1 | h1
  · exact h1
  · have := (pl_mono 310 (k - 310)).1
    rw [show 310 + (k - 310) = k by omega, pl_full] at this
    omega
theorem pl_is (k n : Nat) (hk : k ≤ 310) (h : (pl k).length = n) : pl k = (pl 310).take n := by
  have := (pl_mono k (310 - k)).2
  rw [show k + (310 - k) = 310 by omega, h] at this
  exact this.symm
theorem i64ty : Ty1 Tryd.prog 54 3 (.int .i64 0) 8 :=
  ⟨Tryd.underlying54, by
    have h : (Tryd.prog.info? 3).map (fun i => (i.zero, i.size, i.bytes)) = some (some (.int .i64 0), 1, 8) := by kernel_rfl
    obtain ⟨i, h1, h2, h3, h4⟩ := info_parts h
    exact ⟨i, h1, h2, h3, h4⟩, rfl⟩
def good (ps : List Nat) (c : Nat) : Bool := ps.all (fun p => decide (c % p ≠ 0))
theorem good_snoc (ps : List Nat) (c p : Nat) : good (ps ++ [p]) c = (good ps c && decide (c % p ≠ 0)) := by simp [good]
theorem ne_mod (k x : Nat) : (((k : Int) + 2) % (x : Int) != 0) = decide ((k + 2) % x ≠ 0) := by
  have e : ((k : Int) + 2) % (x : Int) = (((k + 2) % x : Nat) : Int) := by simp
  rw [e]
  by_cases h : (k + 2) % x = 0
  · simp [h]
  · have h2 : ¬ (((k + 2) % x : Nat) : Int) = 0 := by omega
    rw [decide_eq_true h]
    exact bne_iff_ne.2 h2
set_option maxRecDepth 100000 in
set_option maxHeartbeats 2000000 in
theorem primes_any (n : Nat) (w : World) (hn : n ≤ 64) : Calls Tryd.prog 21 #[.int .i64 n] w fun e w' => ∃ A c, e = .returned (.slice A n c) ∧ Ow w' w.heap.size 3 A n c (nv ((pl 310).take n)) ∧ Below w.heap.size w w' := by
  go_enter Tryd.func21, Tryd.ntmps21
  go_wp2_with fail
  go_loopw [3, 4, 5, 7] (fun v c _ _ wr => ∃ (k : Nat) (A : Option Addr) (N d : Nat), v = .slice A N d ∧ c = .int .i64 ((k + 2 : Nat) : Int) ∧ N ≤ n ∧ k ≤ 310 ∧ Hid ((pl k).length = N) ∧ Ow wr w.heap.size 3 A N d (nv (pl k)) ∧ Below w.heap.size w wr) (fun _ c _ _ _ => 312 - (intOf c).toNat)
  case atStart => exact ⟨0, none, 0, 0, rfl, rfl, by omega, by omega, (rfl : (pl 0).length = 0), Ow.nil _ _ _, Below.refl _ _⟩
  case round =>
    obtain ⟨k, A, N, d, rfl, rfl, hN, hk, HL, ho, hb⟩ := hrel
    obtain ⟨wo, hwo⟩ : ∃ wo, wo = wr := ⟨_, rfl⟩
    subst hwo
    by_cases hlt : N < n
    · have hk3 := pl_need k n hn (by rw [HL.out]; exact hlt)
      have hlt' : (N : Int) < (n : Int) := by omega
      have HO := Lib.hid (And.intro ho hb)
      have hrd := ho.rd
      have HRD := Lib.hid hrd
      clear ho hb hrd
      go_wp2_with fail
      go_loop [5, 7, 16] (fun g _ q => ∃ (j : Nat) (B : Bool), g = .bool B ∧ q = .int .i64 j ∧ j ≤ N ∧ Hid (B = good ((pl k).take j) (k + 2))) (fun _ _ q => N - (intOf q).toNat)
      case atStart => exact ⟨0, true, rfl, rfl, by omega, (rfl : true = good ((pl k).take 0) (k + 2))⟩
      case round =>
        obtain ⟨j, B, rfl, rfl, hj, HB⟩ := hrel
        by_cases hj2 : j < N
        · obtain ⟨b, off, rfl, hbl, hcell⟩ := HRD.out.at_ hj2
          have hjl : j < (pl k).length := by rw [HL.out]; exact hj2
          rw [nv_at _ _ hjl] at hcell
          obtain ⟨x, hx⟩ : ∃ x : Nat, x = (pl k)[j] := ⟨_, rfl⟩
          rw [← hx] at hcell
          have hx2 := pl_two k x (by rw [hx]; exact List.getElem_mem hjl)
          have hst : good ((pl k).take (j + 1)) (k + 2) = (B && decide ((k + 2) % x ≠ 0)) := by rw [List.take_succ_eq_append_getElem hjl, good_snoc, ← HB.out, hx]
          have HST := Lib.hid hst
          have hx0 : ¬ (x : Int) = 0 := by omega
          have hjN : (j : Int) < (N : Int) := by omega
          have HNM := Lib.hid (ne_mod k x)
          clear hst hx HB
          cases B with
          | true =>
            go_wp2_with fail
            exact ⟨⟨j + 1, _, rfl, by go_num, by omega, ((HNM.out.trans (by simp)).trans HST.out.symm : (((k : Int) + 2) % (x : Int) != 0) = good ((pl k).take (j + 1)) (k + 2))⟩, by simp [intOf]; omega⟩
          | false =>
            go_wp2_with fail
            exact ⟨⟨j + 1, _, rfl, by go_num, by omega, (HST.out.symm : false = good ((pl k).take (j + 1)) (k + 2))⟩, by simp [intOf]; omega⟩
        · obtain rfl : j = N := by omega
          have hg : B = good (pl k) (k + 2) := by have := HB.out; rwa [List.take_of_length_le (by rw [HL.out]; exact Nat.le_refl _)] at this
          have hpl : pl (k + 1) = if B = true then pl k ++ [k + 2] else pl k := by rw [hg]; rfl
          have HPL := Lib.hid hpl
          have hjN : ¬ (j : Int) < (j : Int) := by omega
          clear hg HB hpl
          cases B with
          | true =>
            have hp2 : pl (k + 1) = pl k ++ [k + 2] := by have := HPL.out; rwa [if_pos rfl] at this
            have HP2 := Lib.hid hp2
            clear hp2
            have hwos := HO.out.2.size
            go_wp2_with (at_builtin; refine wp_app i64ty rfl (.tmp 29) (.tmp 31) rfl rfl rfl (HO.out.1.alloc _) (Rd.one _ _ _) (by simp [Value.oneCell']) (by omega) (by omega) (by simp; omega) ?_; intro A4 N4 c4 w5 ho4 hN4 hb4 _)
            have hN5 := ho4.len
            have hL5 : (pl (k + 1)).length = j + 1 := by rw [HP2.out, List.length_append, HL.out]; rfl
            rw [List.length_append, nv_len, HL.out] at hN5
            have hn5 : N4 = j + 1 := hN5.symm
            subst hn5
            have he : nv (pl (k + 1)) = nv (pl k) ++ [Value.int .i64 ((k : Int) + 2)] := by rw [HP2.out, nv_app]; rfl
            rw [← he] at ho4
            have hb5 : Below w.heap.size w w5 := (HO.out.2.trans ((Below.refl _ _).alloc hwos _)).trans hb4
            have H5 := Lib.hid (And.intro ho4 (And.intro hb5 hL5))
            clear ho4 hb4 hb5 hL5 he hN5
            go_roundw
            case rel => exact ⟨k + 1, A4, j + 1, c4, rfl, by go_num, by omega, by omega, H5.out.2.2, H5.out.1, H5.out.2.1⟩
            case measure => simp [intOf]; omega
          | false =>
            have hp2 : pl (k + 1) = pl k := by have := HPL.out; rwa [if_neg (by simp)] at this
            have HP2 := Lib.hid hp2
            clear hp2
            go_wp2_with fail
            go_roundw
            case rel => exact ⟨k + 1, A, j, d, rfl, by go_num, by omega, by omega, (by rw [HP2.out]; exact HL.out : (pl (k + 1)).length = j), (by rw [HP2.out]; exact HO.out.1), HO.out.2⟩
            case measure => simp [intOf]; omega
    · obtain rfl : N = n := by omega
      have hlt' : ¬ (N : Int) < (N : Int) := by omega
      have HO := Lib.hid (And.intro ho hb)
      have hpi := pl_is k N hk HL.out
      have HPI := Lib.hid hpi
      clear ho hb hpi
      go_wp2_with fail
      go_ret
      exact ⟨A, d, rfl, (by rw [← HPI.out]; exact HO.out.1), HO.out.2⟩
end Go.Proofs.YtagomegeeijfnaaDoor.dg
