/- The document's constants are the tables. -/
import Derived.Test.YtagomegeeijfnaaDoorDgR
namespace Go.Proofs.YtagomegeeijfnaaDoor.dg
open Go.RowKit Mem DM
set_option linter.unusedVariables false
theorem u32ty : Ty1 Tryd.prog 39 41 (.int .u32 0) 4 :=
  ⟨Tryd.underlying39, by
    have h : (Tryd.prog.info? 41).map (fun i => (i.zero, i.size, i.bytes)) = some (some (.int .u32 0), 1, 4) := by kernel_rfl
    obtain ⟨i, h1, h2, h3, h4⟩ := info_parts h
    exact ⟨i, h1, h2, h3, h4⟩, rfl⟩
def cst (n k : Nat) : List UInt32 := ((pl 310).take n).map fun p => UInt32.ofNat (rt p k 37 0)
theorem cst8 : cst 8 2 = roots := by decide +kernel
theorem cst64 : cst 64 3 = cubes := by decide +kernel
theorem wv_of (v : Nat) : wv (UInt32.ofNat v) = .int .u32 ((v % 4294967296 : Nat) : Int) := by
  unfold wv
  rw [UInt32.toNat_ofNat']
set_option maxRecDepth 100000 in
set_option maxHeartbeats 2000000 in
theorem consts_any (n k : Nat) (w : World) (hn : n ≤ 64) (hk : k ≤ 200) :
    Calls Tryd.prog 15 #[.int .i64 n, .int .i64 k] w fun e w' => ∃ A c, e = .returned (.slice A n c) ∧ Ow w' w.heap.size 41 A n c (wvs (cst n k)) ∧ Below w.heap.size w w' := by
  have HP := Lib.hid (primes_any n w hn)
  obtain ⟨ps, hps⟩ : ∃ ps, (pl 310).take n = ps := ⟨_, rfl⟩
  have hpl : ps.length = n := by rw [← hps, List.length_take, pl_full]; omega
  have hp2 : ∀ p ∈ ps, p < 65536 := fun p hp => by
    rw [← hps] at hp
    have := pl_two 310 p (List.mem_of_mem_take hp)
    omega
  have hcs : cst n k = ps.map fun p => UInt32.ofNat (rt p k 37 0) := by rw [← hps]; rfl
  rw [hcs]
  rw [hps] at HP
  have HL := Lib.hid (And.intro hpl hp2)
  clear hps hpl hp2 hcs
  go_enter Tryd.func15, Tryd.ntmps15
  go_wp2_with (go_at_call 21; refine HP.out.mono ?_; rintro e w1 ⟨A1, c1, rfl, ho1, hb1⟩)
  have HR1 := Lib.hid ho1.rd
  have HB1 := Lib.hid hb1
  have hw1 := hb1.size
  clear ho1 hb1
  go_loopw [5, 7, 11] (fun v _ q wr => ∃ (j N d : Nat) (A : Option Addr), v = .slice A N d ∧ q = .int .i64 (j : Int) ∧ j ≤ n ∧ N = j ∧ Ow wr w1.heap.size 41 A N d (wvs ((ps.take j).map fun p => UInt32.ofNat (rt p k 37 0))) ∧ Below w1.heap.size w1 wr) (fun _ _ q _ => n - (intOf q).toNat)
  case atStart => exact ⟨0, 0, 0, none, rfl, rfl, by omega, rfl, Ow.nil _ _ _, Below.refl _ _⟩
  case round =>
    obtain ⟨j, N, d, A, rfl, rfl, hj, hN, ho, hb⟩ := hrel
    subst hN
    have hws := hb.size
    by_cases hlt : N < n
    · have hii : (N : Int) < (n : Int) := by omega
      obtain ⟨b1, o1, rfl, hbl, hc1⟩ := (HR1.out.below hb (Nat.le_refl _)).at_ hlt
      have hNl : N < ps.length := by rw [HL.out.1]; exact hlt
      rw [nv_at _ _ hNl] at hc1
      obtain ⟨p, hp⟩ : ∃ p, p = ps[N] := ⟨_, rfl⟩
      rw [← hp] at hc1
      have hroot := root_any p k wr (HL.out.2 p (by rw [hp]; exact List.getElem_mem hNl)) hk
      have hwv := wv_of (rt p k 37 0)
      obtain ⟨R, hR⟩ : ∃ R : Nat, rt p k 37 0 % 4294967296 = R := ⟨_, rfl⟩
      rw [hR] at hroot hwv
      have hst : (ps.take (N + 1)).map (fun p => UInt32.ofNat (rt p k 37 0)) = (ps.take N).map (fun p => UInt32.ofNat (rt p k 37 0)) ++ [UInt32.ofNat (rt p k 37 0)] := by
        rw [List.take_succ_eq_append_getElem hNl, List.map_append, ← hp]
        rfl
      have HO := Lib.hid (And.intro ho (And.intro hb (And.intro hst hwv)))
      have HRT := Lib.hid hroot
      clear ho hb hst hroot hp hR hwv
      go_wp2_with (first
        | (go_at_call 22; refine HRT.out.mono ?_; clear HRT; rintro e w2 ⟨rfl, hb2⟩)
        | (at_builtin; refine wp_app u32ty rfl (.tmp 15) (.tmp 19) rfl rfl rfl ((Mem.Ow.below HO.out.1 hb2 (Nat.le_refl _)).alloc _) (Rd.one _ _ _) (by simp [Value.oneCell']) (by omega) (by omega) (by have h9 := hb2.size; simp <;> omega) ?_; intro A4 N4 c4 w5 ho4 hN4 hb4 _)
        | fail)
      have hN4' : N4 = N + 1 := by have h9 := ho4.len; rw [List.length_append, wvs_len, List.length_map, List.length_take, Nat.min_eq_left (by omega)] at h9; exact h9.symm
      subst hN4'
      have he : wvs ((ps.take (N + 1)).map fun p => UInt32.ofNat (rt p k 37 0)) = wvs ((ps.take N).map fun p => UInt32.ofNat (rt p k 37 0)) ++ [.int .u32 (R : Int)] := by
        rw [HO.out.2.2.1, ← HO.out.2.2.2]
        simp [wvs]
      rw [← he] at ho4
      exact ⟨⟨N + 1, N + 1, c4, A4, rfl, by go_num, by omega, rfl, ho4, (HO.out.2.1.trans (hb2.mono hws)).trans (((Below.refl _ _).alloc (by have := hb2.size; omega) _).trans hb4)⟩, by simp [intOf]; omega⟩
    · obtain rfl : N = n := by omega
      have hii : ¬ (N : Int) < (N : Int) := by omega
      rw [List.take_of_length_le (by rw [HL.out.1]; exact Nat.le_refl _)] at ho
      have HO := Lib.hid (And.intro (ho.base hw1) (HB1.out.trans (hb.mono hw1)))
      clear ho hb
      go_wp2_with fail
      go_ret
      exact ⟨_, _, rfl, HO.out.1, HO.out.2⟩
end Go.Proofs.YtagomegeeijfnaaDoor.dg
