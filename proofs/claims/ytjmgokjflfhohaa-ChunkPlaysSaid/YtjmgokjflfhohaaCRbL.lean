/- A roller: Roll, Next. -/
import Derived.Test.YtjmgokjflfhohaaCRbK
namespace Go.Proofs.Ytjmgokjflfhohaa.rb
open Go.RowKit Mem
set_option linter.unusedVariables false
variable {w w' : World} {b p r : Nat} {d s : Int} {A F L : Nat → Nat} {f t : Nat}
/-- a roller's cells: its table, the fingerprint, the last bytes, where the first of them is -/
structure RolB (w : World) (r b f : Nat) (L : Nat → Nat) (t : Nat) : Prop where
  c0 : w.cell? ⟨r, 0, none⟩ = some (.pointer (some ⟨b, 0, none⟩))
  c1 : w.cell? ⟨r, 1, none⟩ = some (.int .u64 (f : Nat))
  la : ∀ i, i < 16 → w.cell? ⟨r, 2 + i, none⟩ = some (.int .u8 (L i : Nat))
  ct : w.cell? ⟨r, 18, none⟩ = some (.int .i64 (t : Nat))
  fz : ∀ o, w.frozen? ⟨r, o, none⟩ = false
theorem RolB.lt (h : RolB w r b f L t) : r < w.heap.size := cell_lt h.c0
theorem RolB.set1 (h : RolB w r b f L t) (g : Nat) : RolB (w.setCell ⟨r, 1, none⟩ (.int .u64 (g : Nat))) r b g L t := by
  refine ⟨?_, World.cell?_setCell_same _ _ _ h.c1, ?_, ?_, fun o => by rw [frozen_set]; exact h.fz o⟩
  · rw [World.cell?_setCell_other _ _ _ _ (ne_off (by omega))]; exact h.c0
  · intro i hi; rw [World.cell?_setCell_other _ _ _ _ (ne_off (by omega))]; exact h.la i hi
  · rw [World.cell?_setCell_other _ _ _ _ (ne_off (by omega))]; exact h.ct
theorem RolB.setL (h : RolB w r b f L t) (i x : Nat) (hi : i < 16) : RolB (w.setCell ⟨r, 2 + i, none⟩ (.int .u8 (x : Nat))) r b f (upd L i x) t := by
  refine ⟨?_, ?_, ?_, ?_, fun o => by rw [frozen_set]; exact h.fz o⟩
  · rw [World.cell?_setCell_other _ _ _ _ (ne_off (by omega))]; exact h.c0
  · rw [World.cell?_setCell_other _ _ _ _ (ne_off (by omega))]; exact h.c1
  · intro j hj
    unfold upd
    by_cases e : j = i
    · subst e; rw [if_pos rfl]; exact World.cell?_setCell_same _ _ _ (h.la j hj)
    · rw [if_neg e, World.cell?_setCell_other _ _ _ _ (ne_off (by omega))]; exact h.la j hj
  · rw [World.cell?_setCell_other _ _ _ _ (ne_off (by omega))]; exact h.ct
theorem RolB.setT (h : RolB w r b f L t) (u : Nat) : RolB (w.setCell ⟨r, 18, none⟩ (.int .i64 (u : Nat))) r b f L u := by
  refine ⟨?_, ?_, ?_, World.cell?_setCell_same _ _ _ h.ct, fun o => by rw [frozen_set]; exact h.fz o⟩
  · rw [World.cell?_setCell_other _ _ _ _ (ne_off (by omega))]; exact h.c0
  · rw [World.cell?_setCell_other _ _ _ _ (ne_off (by omega))]; exact h.c1
  · intro i hi; rw [World.cell?_setCell_other _ _ _ _ (ne_off (by omega))]; exact h.la i hi
theorem RolB.drew (h : RolB w r b f L t) : RolB w.drew r b f L t := ⟨h.c0, h.c1, h.la, h.ct, h.fz⟩
theorem RolB.drewN (h : RolB w r b f L t) (n : Nat) : RolB (w.drewN n) r b f L t := ⟨h.c0, h.c1, h.la, h.ct, h.fz⟩
theorem RolB.grown {c : Nat} (h : RolB w r b f L t) (hg : Grown c w w') (hne : r ≠ c) : RolB w' r b f L t := by
  have hr := h.lt
  have hz : ∀ o, w'.frozen? ⟨r, o, none⟩ = w.frozen? ⟨r, o, none⟩ := fun o => World.grownBy.frozen_far hg ⟨r, o, none⟩ hr (fun e => hne (by injection e))
  exact ⟨by rw [hg.cell hne hr]; exact h.c0, by rw [hg.cell hne hr]; exact h.c1, fun i hi => by rw [hg.cell hne hr]; exact h.la i hi, by rw [hg.cell hne hr]; exact h.ct, fun o => by rw [hz]; exact h.fz o⟩
theorem TabB.grown {c : Nat} (h : TabB w b p d s A F) (hg : Grown c w w') (hne : b ≠ c) : TabB w' b p d s A F := by
  have hr := h.lt
  have hz : ∀ o, w'.frozen? ⟨b, o, none⟩ = w.frozen? ⟨b, o, none⟩ := fun o => World.grownBy.frozen_far hg ⟨b, o, none⟩ hr (fun e => hne (by injection e))
  exact ⟨by rw [hg.cell hne hr]; exact h.c0, by rw [hg.cell hne hr]; exact h.c1, by rw [hg.cell hne hr]; exact h.c2, fun i hi => by rw [hg.cell hne hr]; exact h.ab i hi, fun i hi => by rw [hg.cell hne hr]; exact h.fi i hi, fun o => by rw [hz]; exact h.fz o⟩
/-- the cells of a fresh roller -/
def freshR (b : Nat) : Array Value := #[Value.pointer (some ⟨b, 0, none⟩), .int .u64 0] ++ Array.replicate 16 (.int .u8 0) ++ #[.int .i64 0]
theorem freshR_lit (b : Nat) : freshR b = #[.pointer (some ⟨b, 0, none⟩), .int .u64 0, .int .u8 0, .int .u8 0, .int .u8 0, .int .u8 0, .int .u8 0, .int .u8 0, .int .u8 0, .int .u8 0, .int .u8 0, .int .u8 0, .int .u8 0, .int .u8 0, .int .u8 0, .int .u8 0, .int .u8 0, .int .u8 0, .int .i64 0] := by
  apply Array.ext'
  unfold freshR
  simp [Array.toList_replicate, List.replicate]
theorem freshR_size (b : Nat) : (freshR b).size = 19 := by unfold freshR; simp
theorem freshR_rol (b : Nat) (w : World) : RolB (w.alloc (.cells (freshR b) 92)) w.heap.size b 0 (fun _ => 0) 0 := by
  have hc : ∀ i, i < 19 → (w.alloc (.cells (freshR b) 92)).cell? ⟨w.heap.size, i, none⟩ = (freshR b)[i]? := by
    intro i hi
    have := freshR_size b
    go_simp
  refine ⟨?_, ?_, ?_, ?_, ?_⟩
  · rw [hc 0 (by omega)]; unfold freshR; simp
  · rw [hc 1 (by omega)]; unfold freshR; simp
  · intro i hi
    rw [hc (2 + i) (by omega)]; unfold freshR
    rw [Array.getElem?_append_left (by simp; omega), Array.getElem?_append_right (by simp), Array.getElem?_replicate, if_pos (by simp; omega)]; rfl
  · rw [hc 18 (by omega)]; unfold freshR; rw [Array.getElem?_append_right (by simp)]; simp
  · intro o; go_simp
/-- what Roll leaves -/
def RollPost (b p : Nat) (w : World) (e : Ending) (w' : World) : Prop := ∃ r, e = .returned (.pointer (some ⟨r, 0, none⟩)) ∧ w.heap.size ≤ r ∧ RolB w' r b 0 (fun _ => 0) 0 ∧ TabB w' b p 1 0 (AV p) (FV p) ∧ Grown b w w'
set_option maxRecDepth 100000 in
theorem roll_any (b p : Nat) (w : World) (hp : p.log2 = 31) (ht : TabOk w b p) :
    Calls Try.prog 29 #[.pointer (some ⟨b, 0, none⟩)] w (RollPost b p w) := by
  have hp64 : p < 18446744073709551616 := by have := log31_lt hp; omega
  have p0 : p ≠ 0 := by intro h; subst h; simp at hp
  have hc0 : w.cell? ⟨b, 0, none⟩ = some (.int .u64 (p : Nat)) := by rcases ht with h | h <;> exact h.c0
  have hbw : b < w.heap.size := cell_lt hc0
  have q1 : ¬ (p : Int) = 0 := by omega
  have q2 : ((p : Int) == 0) = false := by simp [p0]
  go_enter Try.func29, Try.ntmps29
  go_wp2_with (go_at_call 37; refine (poly_any _ hc0).mono ?_; rintro e w' ⟨rfl, rfl⟩)
  go_region_law (go_simp; go_at_call 38; refine (reckon_any b p _ hp64 ht.drew).mono ?_; rintro e w2 ⟨rfl, hT2, hG2⟩)
  all_goals
    have hG2 := hG2.of_drew
    go_wp2_with fail
    go_ret
    have hR := freshR_rol b w2
    rw [freshR_lit] at hR
    exact ⟨_, rfl, hG2.size, hR, hT2.alloc _, hG2.alloc _⟩
theorem behind_at {x : Int} (f c : Nat) (w : World) (hx : x = (f : Nat)) (hp : p.log2 = 31) (ht : TabB w b p 1 0 (AV p) (FV p)) (hf : f < 2147483648) (hc : c < 256) :
    Calls Try.prog 47 #[.pointer (some ⟨b, 0, none⟩), .int .u64 x, .int .u8 (c : Nat)] w fun e w' => e = .returned (.int .u64 (md (f * 256 + c) p : Nat)) ∧ w = w' := by
  rw [hx]; exact behind_any f c w hp ht hf hc
set_option maxRecDepth 100000 in
set_option maxHeartbeats 2000000 in
theorem next_any (f t c : Nat) (L : Nat → Nat) (w : World) (hp : p.log2 = 31) (ht : TabB w b p 1 0 (AV p) (FV p)) (hr : RolB w r b f L t) (hbr : r ≠ b) (hf : f < 2147483648) (hx : (f ^^^ FV p (L t)) < 2147483648) (htt : t < 16) (hL : L t < 256) (hc : c < 256) :
    Calls Try.prog 39 #[.pointer (some ⟨r, 0, none⟩), .int .u8 (c : Nat)] w fun e w' => e = .returned (.int .u64 (md ((f ^^^ FV p (L t)) * 256 + c) p : Nat)) ∧ RolB w' r b (md ((f ^^^ FV p (L t)) * 256 + c) p) (upd L t c) ((t + 1) % 16) ∧ Grown r w w' := by
  have e0 := hr.c0
  have e1 := hr.c1
  have e2 := hr.la t htt
  have e3 := hr.ct
  have e4 := ht.fi (L t) hL
  have e5 := hr.fz 1
  obtain ⟨x, hxd⟩ : ∃ x, f ^^^ FV p (L t) = x := ⟨_, rfl⟩
  have hxx : bits .xor .u64 (f : Int) ((FV p (L t) : Nat) : Int) = (x : Int) := by
    rw [u64_xor_nat _ _ (by omega) (by unfold FV; exact ml_bound (by have := log31_lt hp; omega)), hxd]
  rw [hxd] at hx ⊢
  generalize FV p (L t) = y at *
  generalize hlt : L t = z at *
  have tt : (t : Int) < 16 := by omega
  have zz : (z : Int) < 256 := by omega
  obtain ⟨v, hv⟩ : ∃ v, md (x * 256 + c) p = v := ⟨_, rfl⟩
  have HB : Hid (Calls Try.prog 47 #[.pointer (some ⟨b, 0, none⟩), .int .u64 (x : Nat), .int .u8 (c : Nat)] w.drew fun e w' => e = .returned (.int .u64 (v : Nat)) ∧ w' = w.drew) := Lib.hid (by rw [← hv]; exact (behind_any x c w.drew hp ht.drew hx hc).mono fun _ _ h => ⟨h.1, h.2.symm⟩)
  have HR : Hid (RolB w r b f L t) := Lib.hid hr
  obtain ⟨u, hu⟩ : ∃ u, (t + 1) % 16 = u := ⟨_, rfl⟩
  have et : ((t : Int) + 1) % 16 = (u : Int) := by omega
  have eu : ((t : Int) + 1).tmod 16 = (u : Int) := by rw [Int.tmod_eq_emod_of_nonneg (by omega)]; exact et
  rw [hv, hu]
  clear hu
  clear hv hxd hr
  go_enter Try.func39, Try.ntmps39
  go_wp2_with fail
  go_still_tail 32, (by kernel_rfl)
  still_call (HB.out)
  repeat still_step
  refine wpStill_nil ?_
  change wpList _ _ _ _ _ w.drew
  have hr2 := HR.out.drew
  clear HB HR
  have hG2 : Grown r w w.drew := (Grown.refl r w).drew
  have g1 := hr2.c1
  have g5 := hr2.fz 1
  generalize w.drew = w2 at *
  have hr3 := hr2.set1 v
  have hG3 := hG2.set 1 (.int .u64 (v : Nat))
  go_wp2_with fail
  generalize w2.setCell ⟨r, 1, none⟩ (.int .u64 (v : Nat)) = w3 at *
  have k3 := hr3.ct
  have k2 := hr3.la t htt
  have k5 := hr3.fz (2 + t)
  go_region_law (fail)
  have hr4 := (hr3.setL t c htt).drew
  have hG4 := (hG3.set (2 + t) (.int .u8 (c : Nat))).drew
  generalize (w3.setCell ⟨r, 2 + t, none⟩ (.int .u8 (c : Nat))).drew = w4 at *
  have m1 := hr4.ct
  have m2 := hr4.fz 18
  have hr5 := hr4.setT u
  have hG5 := hG4.set 18 (.int .i64 (u : Nat))
  have m3 := hr5.c1
  clear k2 k3 k5 g1 g5
  go_wp2_with fail
  go_ret
  exact ⟨rfl, hr5, hG5⟩
#print axioms next_any
end Go.Proofs.Ytjmgokjflfhohaa.rb
