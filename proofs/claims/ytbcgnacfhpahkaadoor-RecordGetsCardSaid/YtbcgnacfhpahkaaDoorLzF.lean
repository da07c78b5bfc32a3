/- lz: the window's end set farther; with how many same bytes two begin. -/
import Derived.Test.YtbcgnacfhpahkaaDoorLzE
namespace Go.Proofs.YtbcgnacfhpahkaaDoor.lz
set_option maxRecDepth 20000
open Go.RowKit Mem OM LM oct
open Go.Maps (Keyed)
set_option linter.unusedVariables false
attribute [local go_sem] Oper.semAt_some
variable {w w' : World} {x mb n c0 lo e : Nat} {A0 : Option Addr} {B : List UInt8} {f : List UInt8 → Option Nat}
theorem Win.setEnd (h : Win w x mb n c0 A0 B lo e f) (v : Value) : Win (w.setCell ⟨x, 1, none⟩ v) x mb n c0 A0 B lo e f := by
  have ks := Kept.set w x 1 v
  have h1 := h.lt
  exact ⟨(World.cell?_setCell_other _ _ _ _ (ne_off (by omega))).trans h.k0, (World.cell?_setCell_other _ _ _ _ (ne_off (by omega))).trans h.k2, ks.rd h.rd (by omega) (fun i _ hi => by omega), h.nc, ks.map h.mp (by omega),
    fun i hi => by
      obtain ⟨v, hv⟩ := h.ar i hi
      exact ⟨v, (World.cell?_setCell_other _ _ _ _ (ne_off (by omega))).trans hv⟩,
    fun p h3 h4 h5 => by
      obtain ⟨o, ho, hl⟩ := h.be p h3 h4 h5
      exact ⟨o, (World.cell?_setCell_other _ _ _ _ (ne_off (by omega))).trans ho, hl⟩,
    h.la, fun o => (frozen_set _ _ _ _).trans (h.fz o), h1.1, by rw [World.size_setCell]; exact h1.2⟩
def MovePost (w : World) (x mb n c0 : Nat) (A0 : Option Addr) (B : List UInt8) (e : Nat) (en : Ending) (w' : World) : Prop := en = .returned (.tuple #[]) ∧ ∃ f', Win w' x mb n c0 A0 B (e - 512) e f' ∧ w'.cell? ⟨x, 1, none⟩ = some (.int .i64 (e : Nat)) ∧ Kept w w' (fun i => i = mb ∨ i = x)
theorem forget_any (w : World) (h : Win w x mb n c0 A0 B (e - 512) e f) (he : e ≤ 1048576) :
    Calls Tryd.prog 80 #[.pointer (some ⟨x, 0, none⟩), .int .i64 ((e : Int) - 512)] w (ForgetPost w x mb n c0 A0 B (e - 511) e) := by
  by_cases h5 : e < 512
  · refine (forget_no _ (by omega) w h).mono ?_
    rintro en w' ⟨rfl, rfl⟩
    have h6 : e - 512 = e - 511 := by omega
    rw [h6] at h
    exact ⟨rfl, f, h, Kept.refl _ _⟩
  · have h6 : e - 511 = e - 512 + 1 := by omega
    have h7 : (e : Int) - 512 = ((e - 512 : Nat) : Int) := by omega
    rw [h6, h7]
    exact forget_yes w h (by omega)
set_option maxHeartbeats 1000000 in
theorem move_any (m : Nat) (w : World) (h : Win w x mb n c0 A0 B (e - 512) e f) (h1 : w.cell? ⟨x, 1, none⟩ = some (.int .i64 (e : Nat))) (hm : e + m ≤ n) :
    Calls Tryd.prog 58 #[.pointer (some ⟨x, 0, none⟩), .int .i64 (m : Nat)] w (MovePost w x mb n c0 A0 B (e + m)) := by
  have HN := Lib.hid h.nc.2
  have hmn : m ≤ 1048576 := by have := h.nc.2; omega
  have H0 : Hid (Win w x mb n c0 A0 B (e + 0 - 512) (e + 0) f ∧ w.cell? ⟨x, 1, none⟩ = some (.int .i64 ((e + 0 : Nat) : Int)) ∧ Kept w w (fun i => i = mb ∨ i = x)) := Lib.hid ⟨h, h1, Kept.refl _ _⟩
  clear h h1
  go_enter Tryd.func58, Tryd.ntmps58
  go_wp2_with fail
  go_loopw [5] (fun i wr => ∃ (j : Nat) (f' : List UInt8 → Option Nat), i = .int .i64 (j : Nat) ∧ j ≤ m ∧ Hid (Win wr x mb n c0 A0 B (e + j - 512) (e + j) f' ∧ wr.cell? ⟨x, 1, none⟩ = some (.int .i64 ((e + j : Nat) : Int)) ∧ Kept w wr (fun i => i = mb ∨ i = x))) (fun i _ => m - (intOf i).toNat)
  case atStart => exact ⟨0, f, rfl, by omega, H0⟩
  case round =>
    clear H0
    obtain ⟨j, f', rfl, hj, HW⟩ := hrel
    have hcell := HW.out.2.1
    by_cases hlt : j < m
    · have hji : (j : Int) < (m : Int) := by omega
      obtain ⟨E, hE⟩ : ∃ E, e + j = E := ⟨_, rfl⟩
      have HE := Lib.hid hE
      rw [hE] at hcell HW
      have hEn : E ≤ 1048576 := by have := HN.out; omega
      clear hE
      go_wp2_with fail
      refine (forget_any _ HW.out.1 hEn).mono ?_
      rintro en w1 ⟨rfl, f1, hw1, hk1⟩
      have hxm := HW.out.1.lt
      have hcell1 : w1.cell? ⟨x, 1, none⟩ = some (.int .i64 (E : Nat)) := (hk1.cell (a := ⟨x, 1, none⟩) hxm.2 (by show ¬ x = mb; omega)).trans hcell
      have HW1 := Lib.hid (And.intro hw1 hk1)
      clear hw1 hk1 hcell
      go_wp2_with fail
      refine (learn_any _ HW1.out.1 rfl hEn).mono ?_
      rintro en w2 ⟨rfl, f2, hw2, hk2, hc2⟩
      have hcell2 : w2.cell? ⟨x, 1, none⟩ = some (.int .i64 (E : Nat)) := hc2.trans hcell1
      have hfz := hw2.fz 1
      have HW2 := Lib.hid (And.intro hw2 hk2)
      clear hw2 hk2 hcell1 hc2
      go_wp2_with fail
      go_roundw
      case rel =>
        have e1 : e + (j + 1) = E + 1 := by have := HE.out; omega
        refine ⟨j + 1, f2, by go_num, by omega, ?_⟩
        rw [e1]
        have e2 : E + 1 - 512 = E - 511 := by omega
        rw [e2]
        refine Lib.hid ⟨HW2.out.1.setEnd _, ?_, ((HW.out.2.2.trans (HW1.out.2.more (bad' := fun i => i = mb ∨ i = x) (fun i _ hc => Or.inl hc)) (fun _ _ hc => hc)).trans HW2.out.2 (fun _ _ hc => hc)).trans (Kept.set w2 x 1 _) (fun i _ hc => Or.inr hc)⟩
        rw [World.cell?_setCell_same _ _ _ hcell2]
        go_num
      case measure => simp only [intOf]; omega
    · have hji : ¬ (j : Int) < (m : Int) := by omega
      obtain rfl : j = m := by omega
      go_wp2_with fail
      exact ⟨rfl, _, results_none rfl _ _ _, rfl, f', HW.out⟩
theorem alike_any (A1 A2 : Option Addr) (m c k d C : Nat) (l r : List UInt8) (w : World) (h1 : Rd w C A1 m (bv l)) (h2 : Rd w C A2 k (bv r)) (hk : k ≤ m) (hm : m ≤ 1152921504606846976) :
    Calls Tryd.prog 79 #[.slice A1 m c, .slice A2 k d] w fun en w' => en = .returned (.int .i64 (com l r : Nat)) ∧ w' = w := by
  have hl1 : l.length = m := by rw [← h1.len, bv_len]
  have hl2 : r.length = k := by rw [← h2.len, bv_len]
  have H1 := Lib.hid h1
  have H2 := Lib.hid h2
  have HL := Lib.hid (And.intro hl1 hl2)
  clear h1 h2 hl1 hl2
  go_enter Tryd.func79, Tryd.ntmps79
  go_wp2_with fail
  go_loopw [4, 9] (fun r4 i wr => r4 = .int .i64 0 ∧ wr = w ∧ ∃ j : Nat, i = .int .i64 (j : Nat) ∧ j ≤ k ∧ Hid (∀ q, q < j → l[q]? = r[q]?)) (fun _ i _ => k - (intOf i).toNat)
  case atStart => exact ⟨rfl, rfl, 0, rfl, by omega, Lib.hid (fun q hq => by omega)⟩
  case round =>
    obtain ⟨rfl, rfl, j, rfl, hj, HS⟩ := hrel
    by_cases hlt : j < k
    · have hji : (j : Int) < (k : Int) := by omega
      have hjm : (j : Int) < (m : Int) := by omega
      obtain ⟨g1, o1, rfl, _, hc1⟩ := H1.out.addr (by omega)
      obtain ⟨g2, o2, rfl, _, hc2⟩ := H2.out.addr (by omega)
      have q1 := hc1 j (by omega)
      have q2 := hc2 j hlt
      rw [bv_at l j (by have := HL.out; omega)] at q1
      rw [bv_at r j (by have := HL.out; omega)] at q2
      have hlj : l[j]? = some (l[j]'(by have := HL.out; omega)) := List.getElem?_eq_getElem _
      have hrj : r[j]? = some (r[j]'(by have := HL.out; omega)) := List.getElem?_eq_getElem _
      have HX := Lib.hid (And.intro hlj hrj)
      generalize l[j]'(by have := HL.out; omega) = a at *
      generalize r[j]'(by have := HL.out; omega) = b at *
      clear hc1 hc2 hlj hrj
      by_cases hab : a = b
      · subst hab
        go_wp2_with fail
        go_roundw
        case rel => exact ⟨rfl, trivial, j + 1, by go_num, by omega, Lib.hid (fun q hq => by
          rcases Nat.lt_or_ge q j with h | h
          · exact HS.out q h
          · obtain rfl : q = j := by omega
            rw [HX.out.1, HX.out.2])⟩
        case measure => simp only [intOf]; omega
      · have hne : ¬ ((a.toNat : Int) = (b.toNat : Int)) := fun e => hab (UInt8.toNat_inj.1 (by omega))
        go_wp2_with fail
        go_ret
        refine ⟨?_, rfl⟩
        rw [com_eq l r j (by have := HL.out; omega) (by have := HL.out; omega) HS.out (Or.inr ⟨by have := HL.out; omega, by have := HL.out; omega, by rw [HX.out.1, HX.out.2]; exact fun e => hab (by injection e)⟩)]
        rfl
    · have hji : ¬ (j : Int) < (k : Int) := by omega
      obtain rfl : j = k := by omega
      go_wp2_with fail
      go_ret
      refine ⟨?_, rfl⟩
      rw [com_eq l r j (by have := HL.out; omega) (by have := HL.out; omega) HS.out (Or.inl (by have := HL.out; omega))]
      rfl
end Go.Proofs.YtbcgnacfhpahkaaDoor.lz
