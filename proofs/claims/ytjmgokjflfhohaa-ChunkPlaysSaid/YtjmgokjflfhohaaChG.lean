/- The document's Cut. -/
import Derived.Test.YtjmgokjflfhohaaChF
namespace Go.Proofs.Ytjmgokjflfhohaa.ch
open Go.RowKit Mem rb
set_option linter.unusedVariables false
variable {w w' : World} {p : Nat}
/-- values that are slices of bytes, and what they show -/
inductive RowsR (w : World) (B : Nat) : List Value → List (List UInt8) → Prop
  | nil : RowsR w B [] []
  | cons {A : Option Addr} {n k : Nat} {x : List UInt8} {vs : List Value} {xs : List (List UInt8)} : Rd w B A n (bv x) → n ≤ k → RowsR w B vs xs → RowsR w B (.slice A n k :: vs) (x :: xs)
theorem RowsR.snoc {B : Nat} {vs : List Value} {xs : List (List UInt8)} (h : RowsR w B vs xs) {A : Option Addr} {n k : Nat} {x : List UInt8} (ho : Rd w B A n (bv x)) (hk : n ≤ k) : RowsR w B (vs ++ [.slice A n k]) (xs ++ [x]) := by
  induction h with
  | nil => exact .cons ho hk .nil
  | cons h1 h2 _ ih => exact .cons h1 h2 ih
theorem RowsR.under {B B' : Nat} {vs : List Value} {xs : List (List UInt8)} (h : RowsR w B vs xs) (hb : Below B' w w') (hB : B ≤ B') : RowsR w' B vs xs := by
  induction h with
  | nil => exact .nil
  | cons h1 h2 _ ih => exact .cons (h1.below hb hB) h2 ih
theorem RowsR.kept {bad : Nat → Prop} {B : Nat} {vs : List Value} {xs : List (List UInt8)} (h : RowsR w B vs xs) (hk : Kept w w' bad) (hB : B ≤ w.heap.size) (hb : ∀ i, i < B → ¬ bad i) : RowsR w' B vs xs := by
  induction h with
  | nil => exact .nil
  | cons h1 h2 _ ih =>
    refine .cons ⟨h1.len, fun hn => ?_⟩ h2 ih
    obtain ⟨c, off, rfl, hc, hcell⟩ := h1.addr hn
    have hnc := hb c hc
    refine ⟨c, off, rfl, hc, fun k hk2 => ?_⟩
    rw [hk.cell (a := ⟨c, off + k, none⟩) (show c < w.heap.size by omega) hnc]
    exact hcell k hk2
theorem RowsR.len {B : Nat} {vs : List Value} {xs : List (List UInt8)} (h : RowsR w B vs xs) : vs.length = xs.length := by
  induction h with
  | nil => rfl
  | cons _ _ _ ih => simp [ih]
theorem RowsR.one {B : Nat} {vs : List Value} {xs : List (List UInt8)} (h : RowsR w B vs xs) : ∀ u ∈ vs, u.oneCell' = true := by
  induction h with
  | nil => intro u hu; cases hu
  | cons _ _ _ ih =>
    intro u hu
    rcases List.mem_cons.1 hu with rfl | hu
    · rfl
    · exact ih u hu
theorem RowsR.at_ {B : Nat} {vs : List Value} {xs : List (List UInt8)} (h : RowsR w B vs xs) : ∀ i, (hi : i < xs.length) → ∃ A n k, vs[i]? = some (.slice A n k) ∧ Rd w B A n (bv xs[i]) ∧ n ≤ k := by
  induction h with
  | nil => intro i hi; simp at hi
  | @cons A n k x vs xs h1 h2 _ ih =>
    intro i hi
    cases i with
    | zero => exact ⟨A, n, k, rfl, h1, h2⟩
    | succ i =>
      obtain ⟨A2, n2, k2, e1, e2⟩ := ih i (by simpa using hi)
      exact ⟨A2, n2, k2, by simpa using e1, by simpa using e2⟩
theorem RowsR.parts {B D n : Nat} {A : Option Addr} {vs : List Value} {ls : List (List UInt8)} (h : RowsR w B vs ls) (hr : Rd w D A n vs) (hB : B ≤ D) : Parts w D A n ls := by
  refine ⟨by have h1 := hr.len; have h2 := h.len; omega, vs, hr, fun i hi => ?_⟩
  obtain ⟨Ai, ni, ki, e1, e2, e3⟩ := h.at_ i hi
  have hl := e2.len
  rw [bv_len] at hl
  subst hl
  exact ⟨Ai, ki, e1, e3, e2.more hB⟩
theorem rd_if {B n c N : Nat} {A : Option Addr} {xs : List Value} (h : Rd w B A n xs) (hN : N ≤ n) (hc : n ≤ c) : Rd w B (if c = N then A else Option.map (fun x => x.add N) A) (n - N) (xs.drop N) := by
  have hl := h.len
  by_cases e : c = N
  · have hz : n - N = 0 := by omega
    refine ⟨by rw [List.length_drop]; omega, fun hp => by omega⟩
  · rw [if_neg e]
    have hh := h.cut (l := N) (m := n - N) (by omega) (A' := Option.map (fun x => x.add N) A) (fun _ => rfl)
    rw [List.take_of_length_le (by rw [List.length_drop]; omega)] at hh
    exact hh
def RCutPost (p B : Nat) (l : List UInt8) (w : World) (e : Ending) (w' : World) : Prop := ∃ A n k vs A' m k', e = .returned (.tuple #[.slice A n k, .slice A' m k']) ∧ Ow w' w.heap.size 23 A n k vs ∧ RowsR w' B vs (cutF (rule p) [] l).1 ∧ Rd w' B A' m (bv (cutF (rule p) [] l).2) ∧ m ≤ k' ∧ Below w.heap.size w w'
theorem rcut_any (B n c : Nat) (A : Option Addr) (l : List UInt8) (w : World) (hp : p.log2 = 31) (hr : Rd w B A n (bv l)) (hB : B ≤ w.heap.size) (hc : n ≤ c) (hn : n ≤ 1048576) :
    Calls Try.prog 16 #[.int .u64 (p : Nat), .slice A n c] w (RCutPost p B l w) := by
  have HL := Lib.hid (show l.length = n by rw [← bv_len, hr.len])
  have HR0 : Hid (Rd w B A n (bv (l.drop 0))) := Lib.hid (by rw [List.drop_zero]; exact hr)
  clear hr
  go_enter Try.func16, Try.ntmps16
  go_wp2_with fail
  go_loopw [1, 6, 7, 8, 9, 10, 11, 12, 13, 14, 15, 16, 17, 18, 19, 20, 21, 22, 23] (fun v1 v6 _ _ _ _ _ _ _ _ _ _ _ _ _ _ _ _ _ wr => ∃ (pos : Nat) (AO : Option Addr) (nO kO : Nat) (vs : List Value) (cs : List (List UInt8)) (AR : Option Addr) (nR kR : Nat), v1 = .slice AR nR kR ∧ v6 = .slice AO nO kO ∧ nR ≤ kR ∧ pos + nR = n ∧ nO ≤ pos ∧ Ow wr w.heap.size 23 AO nO kO vs ∧ Below w.heap.size w wr ∧ Hid (RowsR wr B vs cs) ∧ Hid (Rd wr B AR nR (bv (l.drop pos))) ∧ Hid (cutF (rule p) [] l = (cs ++ (cutF (rule p) [] (l.drop pos)).1, (cutF (rule p) [] (l.drop pos)).2))) (fun v _ _ _ _ _ _ _ _ _ _ _ _ _ _ _ _ _ _ _ => match v with | .slice _ n _ => n | _ => 0)
  case atStart => exact ⟨0, none, 0, 0, [], [], A, n, c, rfl, rfl, hc, by omega, by omega, Ow.nil _ _ _, Below.refl _ _, Lib.hid .nil, HR0, Lib.hid (by rw [List.drop_zero]; rfl)⟩
  case round =>
    obtain ⟨pos, AO, nO, kO, vs, cs, AR, nR, kR, rfl, rfl, hRk, hpos, hnO, hrow, hbr, HV, HR, HC⟩ := hrel
    have hsz := hbr.size
    go_wp2_with fail
    refine (first_any B nR kR AR (l.drop pos) wr hp HR.out hRk (by omega)).mono ?_
    rintro e w1 ⟨f, rfl, hf, rfl⟩
    rcases first_cut hp hf with ⟨rfl, hcut⟩ | ⟨f0, f1, hcut⟩
    · have HE : Hid (cutF (rule p) [] l = (cs, l.drop pos)) := Lib.hid (by rw [HC.out, hcut]; simp)
      clear hcut hf HC
      go_wp2_with fail
      go_ret2
      refine ⟨AO, nO, kO, vs, AR, nR, kR, rfl, hrow, ?_, ?_, hRk, hbr⟩
      · rw [HE.out]; exact HV.out
      · rw [HE.out]; exact HR.out
    · have hfn : f ≤ nR := by rw [List.length_drop] at f1; have := HL.out; omega
      have fz : ¬ (f : Int) = 0 := by omega
      have fz2 : ((f : Int) == 0) = false := by rw [beq_eq_false_iff_ne]; exact fz
      have fk : (f : Int) ≤ (kR : Int) := by omega
      have fn : (f : Int) ≤ (nR : Int) := by omega
      have HC2 : Hid (cutF (rule p) [] l = ((cs ++ [(l.drop pos).take f]) ++ (cutF (rule p) [] (l.drop (pos + f))).1, (cutF (rule p) [] (l.drop (pos + f))).2)) := Lib.hid (by
        rw [HC.out, hcut, List.drop_drop, List.append_assoc]; rfl)
      clear hcut hf HC f1
      go_wp2_with (at_builtin; refine wp_app sty rfl (.tmp 15) (.tmp 19) rfl rfl rfl (hrow.alloc _) (Rd.one _ (.slice AR f kR) _) (one1 (x := .slice AR f kR) rfl) (by omega) (by omega) (by simp; omega) ?_; intro A8 n8 k8 w8 ho8 hN8 hb8 hg8; clear hg8)
      have hb18 : Below w.heap.size wr w8 := ((Below.refl _ wr).alloc hsz _).trans hb8
      have hR8 := HR.out.below hb18 hB
      have hV8 := HV.out.under hb18 hB
      have h1 := hR8.cut (l := 0) (m := f) (by omega) (A' := AR) (fun _ => by cases AR <;> simp [Addr.add])
      rw [List.drop_zero, ← bv_take] at h1
      have hV9 := hV8.snoc h1 (by omega : f ≤ kR)
      have h2 := rd_if hR8 hfn hRk
      rw [← bv_drop, List.drop_drop] at h2
      obtain ⟨XR, hXR⟩ : ∃ X, (if kR = f then AR else Option.map (fun x => x.add f) AR) = X := ⟨_, rfl⟩
      rw [hXR] at h2
      have H2 := Lib.hid h2
      have HV9 := Lib.hid hV9
      have hbw8 : Below w.heap.size w w8 := hbr.trans hb18
      clear hR8 hV8 h1 hV9 h2 hb18 hb8 HR HV
      go_roundw
      case rel => exact ⟨pos + f, A8, n8, k8, _, _, XR, nR - f, kR - f, by first | rfl | (simp only [hXR]) | (rw [hXR]), rfl, by omega, by omega, by omega, ho8, hbw8, HV9, H2, HC2⟩
      case measure => simp only []; omega
end Go.Proofs.Ytjmgokjflfhohaa.ch
