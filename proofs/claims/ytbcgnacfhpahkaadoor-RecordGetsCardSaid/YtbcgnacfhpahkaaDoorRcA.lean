/- record: what a record is; fitsSize, fitsData, Check. -/
import Derived.Test.YtbcgnacfhpahkaaDoorDgI
import Derived.Test.YtbcgnacfhpahkaaDoorLzJ
import Derived.Test.YtbcgnacfhpahkaaDoorLzB
import Derived.Deep.MidRow
namespace Go.Proofs.YtbcgnacfhpahkaaDoor.rc
set_option maxRecDepth 20000
open Go.RowKit Mem OM
set_option linter.unusedVariables false
attribute [local go_sem] Oper.semAt_some
/-- a record's cells: kind, size, digest, data -/
def recL (K S : Int) (d : List UInt8) (A : Option Addr) (n c : Nat) : List Value := .int .i64 K :: .int .i64 S :: (bv d ++ [.slice A n c])
theorem recL_len {K S : Int} {d : List UInt8} {A : Option Addr} {n c : Nat} (hd : d.length = 32) : (recL K S d A n c).length = 35 := by
  simp [recL, bv_len, hd]
theorem recL_34 {K S : Int} {d : List UInt8} {A : Option Addr} {n c : Nat} (hd : d.length = 32) : (recL K S d A n c)[34]? = some (.slice A n c) := by
  unfold recL
  rw [show (34 : Nat) = 32 + 1 + 1 from rfl, List.getElem?_cons_succ, List.getElem?_cons_succ, List.getElem?_append_right (by rw [bv_len]; omega), bv_len, hd]
  rfl
def fitsS (S : Int) : Bool := decide (1 ≤ S ∧ S ≤ 256)
def fitsD (K S : Int) (n : Nat) : Bool := if K = 1 then decide (n = 0) else if K = 2 then decide ((n : Int) = S) else if K = 3 then decide (n ≤ 256) else false
theorem fitsSize_any (S : Int) (w : World) : Calls Tryd.prog 31 #[.int .i64 S] w fun e w' => e = .returned (.bool (fitsS S)) ∧ w' = w := by
  by_cases h1 : 1 ≤ S
  · by_cases h2 : S ≤ 256
    · have e : fitsS S = true := decide_eq_true ⟨h1, h2⟩
      rw [e]
      go_enter Tryd.func31, Tryd.ntmps31
      go_wp2_with fail
      go_ret
      exact ⟨rfl, rfl⟩
    · have e : fitsS S = false := decide_eq_false (by omega)
      rw [e]
      go_enter Tryd.func31, Tryd.ntmps31
      go_wp2_with fail
      go_ret
      exact ⟨rfl, rfl⟩
  · have e : fitsS S = false := decide_eq_false (by omega)
    rw [e]
    go_enter Tryd.func31, Tryd.ntmps31
    go_wp2_with fail
    go_ret
    exact ⟨rfl, rfl⟩
/-- a record that was put into a box -/
theorem rec_box (w : World) (K S : Int) (d : List UInt8) (hd : d.length = 32) (A : Option Addr) (n c : Nat) (t : TypeId) :
    (w.alloc (.cells (recL K S d A n c).toArray t)).cell? ⟨w.heap.size, 0, none⟩ = some (.int .i64 K) ∧ (w.alloc (.cells (recL K S d A n c).toArray t)).cell? ⟨w.heap.size, 1, none⟩ = some (.int .i64 S) ∧ (w.alloc (.cells (recL K S d A n c).toArray t)).cell? ⟨w.heap.size, 34, none⟩ = some (.slice A n c) := by
  have h := dg.range_new w (recL K S d A n c) t
  exact ⟨h 0 _ rfl, h 1 _ rfl, h 34 _ (recL_34 hd)⟩
theorem fitsData_any (K S : Int) (d : List UInt8) (hd : d.length = 32) (A : Option Addr) (n c : Nat) (w : World) : Calls Tryd.prog 32 #[.agg (recL K S d A n c).toArray] w fun e w' => e = .returned (.bool (fitsD K S n)) ∧ Below w.heap.size w w' := by
  obtain ⟨c0, c1, c34⟩ := rec_box w K S d hd A n c 26
  have hb : Below w.heap.size w (w.alloc (.cells (recL K S d A n c).toArray 26)) := (Below.refl _ _).alloc (Nat.le_refl _) _
  obtain ⟨X, hX⟩ : ∃ X, (recL K S d A n c).toArray = X := ⟨_, rfl⟩
  rw [hX] at c0 c1 c34 hb ⊢
  clear hX
  by_cases k1 : K = 1
  · by_cases hn : n = 0
    · have e : fitsD K S n = true := by unfold fitsD; rw [if_pos k1]; exact decide_eq_true hn
      rw [e]; subst k1 hn
      go_enter Tryd.func32, Tryd.ntmps32
      go_wp2_with fail
      go_ret
      exact ⟨rfl, hb⟩
    · have e : fitsD K S n = false := by unfold fitsD; rw [if_pos k1]; exact decide_eq_false hn
      have hni : ((n : Int) == 0) = false := beq_eq_false_iff_ne.2 (by omega)
      rw [e]; subst k1
      go_enter Tryd.func32, Tryd.ntmps32
      go_wp2_with fail
      go_ret
      exact ⟨rfl, hb⟩
  · by_cases k2 : K = 2
    · by_cases hn : (n : Int) = S
      · have e : fitsD K S n = true := by unfold fitsD; rw [if_neg k1, if_pos k2]; exact decide_eq_true hn
        rw [e]; subst k2; subst hn
        go_enter Tryd.func32, Tryd.ntmps32
        go_wp2_with fail
        go_ret
        exact ⟨rfl, hb⟩
      · have e : fitsD K S n = false := by unfold fitsD; rw [if_neg k1, if_pos k2]; exact decide_eq_false hn
        have hnb : ((n : Int) == S) = false := beq_eq_false_iff_ne.2 hn
        rw [e]; subst k2
        go_enter Tryd.func32, Tryd.ntmps32
        go_wp2_with fail
        go_ret
        exact ⟨rfl, hb⟩
    · by_cases k3 : K = 3
      · by_cases hn : n ≤ 256
        · have e : fitsD K S n = true := by unfold fitsD; rw [if_neg k1, if_neg k2, if_pos k3]; exact decide_eq_true hn
          have hni : (n : Int) ≤ 256 := by omega
          rw [e]; subst k3
          go_enter Tryd.func32, Tryd.ntmps32
          go_wp2_with fail
          go_ret
          exact ⟨rfl, hb⟩
        · have e : fitsD K S n = false := by unfold fitsD; rw [if_neg k1, if_neg k2, if_pos k3]; exact decide_eq_false hn
          have hni : ¬ (n : Int) ≤ 256 := by omega
          rw [e]; subst k3
          go_enter Tryd.func32, Tryd.ntmps32
          go_wp2_with fail
          go_ret
          exact ⟨rfl, hb⟩
      · have e : fitsD K S n = false := by unfold fitsD; rw [if_neg k1, if_neg k2, if_neg k3]
        rw [e]
        go_enter Tryd.func32, Tryd.ntmps32
        go_wp2_with fail
        go_ret
        exact ⟨rfl, hb⟩
def fitsR (K S : Int) (n : Nat) : Bool := fitsS S && fitsD K S n
def chk (K S : Int) (n : Nat) : Nat := if fitsR K S n then 0 else 100
/-- the load of a row behind a guard that is met -/
theorem wpList_load_mid_g {P : Program} {ops : Array Oper} {rest : List Oper} {op : Oper} {a : Act} {w : World} {Q : Exit → Act → World → Prop} (hw : Region.wanted op (yielded ops a.tmps) = true) (ty : TypeId) (x : Operand) (ho : op.op = .load ty x)
    (b o : Nat) (hx : a.eval x = .pointer (some ⟨b, o, none⟩)) (cs : List Value) (d : TypeDesc) (hc : w.rangeAt b o cs)
    (hu : P.underlying ty = some d) (hd : d.isRow = true) (hi : (P.info? ty).map (·.size) = some cs.length)
    (h : wpList P ops Q rest (a.put op.dst (.agg cs.toArray)) w) : wpList P ops Q (op :: rest) a w :=
  wpList_step fun K hK => by
    rw [if_pos hw]
    exact wp_load_mid ty x ho b o hx cs d hc hu hd hi (hK _ _ h)
theorem info_rec : (Tryd.prog.info? 26).map (·.size) = some 35 := by kernel_rfl
theorem check_any (K S : Int) (d : List UInt8) (hd : d.length = 32) (A : Option Addr) (n c : Nat) (w : World) : Calls Tryd.prog 13 #[.agg (recL K S d A n c).toArray] w fun e w' => e = .returned (.int .i64 (chk K S n : Nat)) ∧ Below w.heap.size w w' := by
  obtain ⟨c0, c1, c34⟩ := rec_box w K S d hd A n c 26
  have hr := dg.range_new w (recL K S d A n c) 26
  have hb : Below w.heap.size w (w.alloc (.cells (recL K S d A n c).toArray 26)) := (Below.refl _ _).alloc (Nat.le_refl _) _
  have hfd := fun y => fitsData_any K S d hd A n c y
  have hl := recL_len (K := K) (S := S) (A := A) (n := n) (c := c) hd
  have hFS := fun y => fitsSize_any S y
  unfold chk fitsR
  obtain ⟨R, hR⟩ : ∃ R, recL K S d A n c = R := ⟨_, rfl⟩
  rw [hR] at c0 c1 c34 hb hr hfd hl ⊢
  have HI : (Tryd.prog.info? 26).map (·.size) = some R.length := by rw [hl]; exact info_rec
  obtain ⟨X, hX⟩ : ∃ X, R.toArray = X := ⟨_, rfl⟩
  rw [hX] at c0 c1 c34 hb hfd hr ⊢
  have HX := Lib.hid (And.intro hX hR)
  clear hX hR
  cases hs : fitsS S with
  | false =>
    rw [hs] at hFS
    go_enter Tryd.func13, Tryd.ntmps13
    go_wp2_with (go_at_call 31; refine (hFS _).mono ?_; rintro e w' ⟨rfl, rfl⟩)
    go_ret
    exact ⟨rfl, hb⟩
  | true =>
    rw [hs] at hFS
    cases hD : fitsD K S n with
    | false =>
      rw [hD] at hfd
      go_enter Tryd.func13, Tryd.ntmps13
      go_wp2_with (first
        | (go_at_call 31; refine (hFS _).mono ?_; rintro e w' ⟨rfl, rfl⟩)
        | (refine wpList_load_mid_g rfl 26 (.tmp 1) rfl w.heap.size 0 rfl _ _ hr Tryd.underlying26 rfl HI ?_; rw [HX.out.1])
        | (go_at_call 32; refine (hfd _).mono ?_; rintro e w' ⟨rfl, hb2⟩)
        | fail)
      go_ret
      exact ⟨rfl, hb.trans (hb2.mono hb.size)⟩
    | true =>
      rw [hD] at hfd
      go_enter Tryd.func13, Tryd.ntmps13
      go_wp2_with (first
        | (go_at_call 31; refine (hFS _).mono ?_; rintro e w' ⟨rfl, rfl⟩)
        | (refine wpList_load_mid_g rfl 26 (.tmp 1) rfl w.heap.size 0 rfl _ _ hr Tryd.underlying26 rfl HI ?_; rw [HX.out.1])
        | (go_at_call 32; refine (hfd _).mono ?_; rintro e w' ⟨rfl, hb2⟩)
        | fail)
      go_ret
      exact ⟨rfl, hb.trans (hb2.mono hb.size)⟩
end Go.Proofs.YtbcgnacfhpahkaaDoor.rc
