/- record: Fits. -/
import Derived.Test.YtbcgnacfhpahkaaDoorRcI
namespace Go.Proofs.YtbcgnacfhpahkaaDoor.rc
set_option maxRecDepth 20000
open Go.RowKit Mem OM
set_option linter.unusedVariables false
set_option linter.unusedSimpArgs false
attribute [local go_sem] Oper.semAt_some
/-- the numbers of a note behind the check of the first ones: none, if one may not be -/
def goF : List (Nat × Int) → (Nat → Int) → Option (Nat → Int)
  | [], v => some v
  | (k, m) :: l, v => if v k < 1 ∨ m < v k then none else goF l (fun j => if j = k then 0 else v j)
theorem goF_app (l r : List (Nat × Int)) (v : Nat → Int) : goF (l ++ r) v = (goF l v).bind (goF r) := by
  induction l generalizing v with
  | nil => rfl
  | cons x l ih =>
    obtain ⟨k, m⟩ := x
    simp only [List.cons_append, goF]
    split
    · rfl
    · exact ih _
/-- a boxed note's numbers -/
def Nums (w : World) (g : Nat) (v : Nat → Int) : Prop := ∀ k, 1 ≤ k → k ≤ 4 → w.cell? ⟨g, k, none⟩ = some (.int .i64 (v k)) ∧ w.frozen? ⟨g, k, none⟩ = false
theorem Nums.below {w w' : World} {B g : Nat} {v : Nat → Int} (h : Nums w g v) (hb : Below B w w') (hg : g < B) : Nums w' g v := fun k h1 h2 =>
  ⟨(hb.cell (p := ⟨g, k, none⟩) hg).trans (h k h1 h2).1, (World.frozen?_of_block (w := w) (hb.block g hg)).trans (h k h1 h2).2⟩
theorem Nums.set {w : World} {g : Nat} {v : Nat → Int} (h : Nums w g v) (k : Nat) (h1 : 1 ≤ k) (h4 : k ≤ 4) : Nums (w.setCell ⟨g, k, none⟩ (.int .i64 0)) g (fun j => if j = k then 0 else v j) := fun j j1 j4 => by
  refine ⟨?_, ?_⟩
  · by_cases e : j = k
    · subst e
      show _ = some (Value.int IntKind.i64 (if j = j then 0 else v j))
      rw [if_pos rfl]
      exact World.cell?_setCell_same _ _ _ (h j j1 j4).1
    · show _ = some (Value.int IntKind.i64 (if j = k then 0 else v j))
      rw [if_neg e]
      exact (World.cell?_setCell_other _ _ _ _ (fun e2 => by first | exact e (congrArg Addr.off e2) | exact e (congrArg Addr.off e2).symm)).trans (h j j1 j4).1
  · rw [World.frozen?_setCell]
    exact (h j j1 j4).2
theorem fldL_at (g : Nat) : ∀ (l : List (Nat × Int)) (i : Nat) (h : i < l.length), (fldL g l)[2 * i]? = some (.pointer (some ⟨g, (l[i]).1, none⟩)) ∧ (fldL g l)[2 * i + 1]? = some (.int .i64 (l[i]).2)
  | (k, m) :: l, 0, _ => ⟨rfl, rfl⟩
  | (k, m) :: l, i + 1, h => by
    have ih := fldL_at g l i (by simpa using h)
    unfold fldL
    rw [show 2 * (i + 1) = 2 * i + 1 + 1 by omega, show 2 * i + 1 + 1 + 1 = (2 * i + 1) + 1 + 1 from rfl]
    simp only [List.getElem?_cons_succ, List.getElem_cons_succ]
    exact ih
theorem flds_ok (N : Int) : ∀ x ∈ flds N, 1 ≤ x.1 ∧ x.1 ≤ 4 := by
  unfold flds
  intro x hx
  split at hx
  · simp at hx; rcases hx with rfl | rfl | rfl <;> simp
  · split at hx
    · simp at hx; rcases hx with rfl | rfl <;> simp
    · split at hx
      · simp at hx; subst hx; simp
      · simp at hx
theorem flds_three (N : Int) : (flds N).length ≤ 3 := by
  unfold flds
  split
  · simp
  · split
    · simp
    · split <;> simp
def v0 (F P D I : Int) : Nat → Int := fun k => if k = 1 then F else if k = 2 then P else if k = 3 then D else I
theorem note_nums {w : World} {g : Nat} {N F P D I K S : Int} {d : List UInt8} {A : Option Addr} {n c : Nat} (h : w.rangeAt g 0 (noteL N F P D I K S d A n c)) (ht : w.there g 0 5) : Nums w g (v0 F P D I) := fun k h1 h4 => by
  have ht' := (ht k (by omega)).2
  rw [Nat.zero_add] at ht'
  refine ⟨?_, ht'⟩
  have c1 := h 1 _ rfl
  have c2 := h 2 _ rfl
  have c3 := h 3 _ rfl
  have c4 := h 4 _ rfl
  simp only [Nat.zero_add] at c1 c2 c3 c4
  match k, h1, h4 with
  | 1, _, _ => exact c1
  | 2, _, _ => exact c2
  | 3, _, _ => exact c3
  | 4, _, _ => exact c4
/-- which numbers a note may have -/
def fitsV (N F P D I : Int) : Bool := decide (0 < (flds N).length) && (match goF (flds N) (v0 F P D I) with | none => false | some v => decide (v 1 = 0 ∧ v 2 = 0 ∧ v 3 = 0 ∧ v 4 = 0))
def fitE (N F P D I K S : Int) (d : List UInt8) (n : Nat) : Nat := if fitsV N F P D I && fitsN N K S d n then 0 else 100
/-- what Fits answers, out of the parts -/
def fitO (l : List (Nat × Int)) (v : Nat → Int) (fr : Bool) : Nat := if (decide (0 < l.length) && (match goF l v with | none => false | some v => decide (v 1 = 0 ∧ v 2 = 0 ∧ v 3 = 0 ∧ v 4 = 0))) && fr then 0 else 100
theorem fitO_nil (v : Nat → Int) (fr : Bool) : fitO [] v fr = 100 := by simp [fitO]
theorem fitO_no (l : List (Nat × Int)) (v : Nat → Int) : fitO l v false = 100 := by simp [fitO]
theorem fitO_bad (l : List (Nat × Int)) (v : Nat → Int) (fr : Bool) (h : goF l v = none) : fitO l v fr = 100 := by simp [fitO, h]
theorem fitO_yes (l : List (Nat × Int)) (v v' : Nat → Int) (hl : 0 < l.length) (h : goF l v = some v') : fitO l v true = if v' 1 = 0 ∧ v' 2 = 0 ∧ v' 3 = 0 ∧ v' 4 = 0 then 0 else 100 := by
  simp [fitO, h, hl]
set_option maxHeartbeats 4000000 in
theorem fits_any (N F P D I K S : Int) (d : List UInt8) (hd : d.length = 32) (A : Option Addr) (n c : Nat) (w : World) : Calls Tryd.prog 15 #[.agg (noteL N F P D I K S d A n c).toArray] w fun e w' => e = .returned (.int .i64 (fitE N F P D I K S d n : Nat)) ∧ Below w.heap.size w w' := by
  have hr := dg.range_new w (noteL N F P D I K S d A n c) 28
  have ht := dg.there_new w (noteL N F P D I K S d A n c) 28
  rw [noteL_len hd] at ht
  have hb : Below w.heap.size w (w.alloc (.cells (noteL N F P D I K S d A n c).toArray 28)) := (Below.refl _ _).alloc (Nat.le_refl _) _
  have hlt : w.heap.size < (w.alloc (.cells (noteL N F P D I K S d A n c).toArray 28)).heap.size := by simp
  have hfr := fun y => fitsRecord_any N F P D I K S d hd A n c y
  have hNL := noteL_len (N := N) (F := F) (P := P) (D := D) (I := I) (K := K) (S := S) (A := A) (n := n) (c := c) hd
  have hinf : (Tryd.prog.info? 28).map (·.size) = some (noteL N F P D I K S d A n c).length := by rw [hNL]; kernel_rfl
  have c0 : (w.alloc (.cells (noteL N F P D I K S d A n c).toArray 28)).cell? ⟨w.heap.size, 0, none⟩ = some (.int .i64 N) := hr 0 _ rfl
  have hnum := note_nums hr (dg.there_sub ht 0 5 (by omega))
  obtain ⟨NL, hNLe⟩ : ∃ NL, noteL N F P D I K S d A n c = NL := ⟨_, rfl⟩
  rw [hNLe] at hr ht hb hlt hinf c0 hnum ⊢
  simp only [hNLe] at hfr
  obtain ⟨NA, hNA⟩ : ∃ NA, NL.toArray = NA := ⟨_, rfl⟩
  rw [hNA] at hr ht hb hlt c0 hnum ⊢
  simp only [hNA] at hfr
  obtain ⟨W, hW⟩ : ∃ W, w.alloc (.cells NA 28) = W := ⟨_, rfl⟩
  rw [hW] at hr ht hb hlt c0 hnum
  have hfl := fields_any w.heap.size N W c0
  unfold FldPost at hfl
  have hok := flds_ok N
  have h3 := flds_three N
  rw [show fitE N F P D I K S d n = fitO (flds N) (v0 F P D I) (fitsN N K S d n) from rfl]
  obtain ⟨fr, hfrE⟩ : ∃ fr, fitsN N K S d n = fr := ⟨_, rfl⟩
  rw [hfrE] at hfr ⊢
  obtain ⟨l, hl⟩ : ∃ l, flds N = l := ⟨_, rfl⟩
  rw [hl] at hfl hok h3 ⊢
  obtain ⟨v, hv⟩ : ∃ v, v0 F P D I = v := ⟨_, rfl⟩
  rw [hv] at hnum ⊢
  obtain ⟨g, hg⟩ : ∃ g, w.heap.size = g := ⟨_, rfl⟩
  rw [hg] at hr ht hb hlt c0 hnum hfl ⊢
  have HH := Lib.hid (And.intro hNLe (And.intro hfrE (And.intro hl hv)))
  clear hNLe hfrE hl hv hNL
  have HF := Lib.hid hfl
  clear hfl
  obtain ⟨E, hE⟩ : ∃ E, fitO l v fr = E := ⟨_, rfl⟩
  rw [hE]
  have HE := Lib.hid hE
  clear hE
  go_enter Tryd.func15, Tryd.ntmps15
  go_upto_region 1 with fail
  try rw [hW]
  try rw [hg]
  go_upto_region 2 with (go_at_call 33; refine (HF.out).mono ?_; rintro e w2 ⟨A2, m2, rfl, hq, hb2⟩)
  have hr2 := dg.range_below hr hb2 hlt
  have hn2 := hnum.below hb2 hlt
  have c02 := (hb2.cell (p := ⟨g, 0, none⟩) hlt).trans c0
  have hlt2 : g < w2.heap.size := Nat.lt_of_lt_of_le hlt hb2.size
  have hb02 : Below g w w2 := hb.trans (hb2.mono (Nat.le_of_lt hlt))
  clear HF hr c0 hnum ht
  by_cases hl0 : l.length = 0
  · have hln : l = [] := List.eq_nil_of_length_eq_zero hl0
    subst hln
    obtain rfl : E = 100 := HE.out.symm.trans (fitO_nil _ _)
    go_wp2_with fail
    go_ret
    exact ⟨rfl, hb02⟩
  · have hlp : 0 < l.length := by omega
    have hlb : ((l.length : Int) == 0) = false := beq_eq_false_iff_ne.2 (by omega)
    obtain ⟨b, rfl, hgb, hbl, hf⟩ := hq hlp
    clear hq
    cases fr with
    | false =>
      obtain rfl : E = 100 := HE.out.symm.trans (fitO_no _ _)
      go_wp2_with (first
        | (refine wpList_load_mid_g rfl 28 (.tmp 1) rfl g 0 rfl NL _ hr2 Tryd.underlying28 rfl hinf ?_; rw [hNA])
        | (go_at_call 34; refine (hfr _).mono ?_; rintro e w3 ⟨rfl, hb3⟩)
        | fail)
      go_ret
      exact ⟨rfl, hb02.trans (hb3.mono (Nat.le_of_lt hlt2))⟩
    | true =>
      go_upto_region 4 with (first
        | (refine wpList_load_mid_g rfl 28 (.tmp 1) rfl g 0 rfl NL _ hr2 Tryd.underlying28 rfl hinf ?_; rw [hNA])
        | (go_at_call 34; refine (hfr _).mono ?_; rintro e w3 ⟨rfl, hb3⟩)
        | fail)
      have hn3 := hn2.below hb3 hlt2
      have hf3 := dg.range_below hf hb3 hbl
      have hb03 : Below g w w3 := hb02.trans (hb3.mono (Nat.le_of_lt hlt2))
      have hlt3 : b < w3.heap.size := Nat.lt_of_lt_of_le hbl hb3.size
      have hgb2 : g < b := by omega
      have H3 := Lib.hid (And.intro hf3 (And.intro hb03 hn3))
      clear hn2 hr2 hfr hf hb3 c02 hn3 hf3 hb03
      go_wp2_with fail
      go_loopw [2, 17] (fun r i wr => ∃ (k : Nat) (v' : Nat → Int), r = .int .i64 0 ∧ i = .int .i64 k ∧ k ≤ l.length ∧ Hid (goF (l.take k) v = some v' ∧ wr.rangeAt b 0 (fldL g l) ∧ Below g w wr ∧ Nums wr g v' ∧ b < wr.heap.size)) (fun _ i _ => l.length - (intOf i).toNat)
      case atStart => exact ⟨0, v, rfl, rfl, by omega, Lib.hid ⟨rfl, H3.out.1, H3.out.2.1, H3.out.2.2, hlt3⟩⟩
      case round =>
        obtain ⟨k, v', rfl, rfl, hk, HR⟩ := hrel
        by_cases hkl : k < l.length
        · have hki : (k : Int) < (l.length : Int) := by omega
          have hx := fldL_at g l k hkl
          have hst : goF (l.take (k + 1)) v = goF [l[k]] v' := by
            rw [List.take_succ_eq_append_getElem hkl, goF_app, HR.out.1]
            rfl
          have hok2 := hok _ (List.getElem_mem hkl)
          obtain ⟨x, hxe⟩ : ∃ x, l[k] = x := ⟨_, rfl⟩
          rw [hxe] at hx hst hok2
          obtain ⟨j, m⟩ := x
          obtain ⟨hj1, hj4⟩ := hok2
          simp only at hx hj1 hj4
          have hcp : wr.cell? ⟨b, k * 2, none⟩ = some (.pointer (some ⟨g, j, none⟩)) := by have := HR.out.2.1 _ _ hx.1; rwa [Nat.zero_add, Nat.mul_comm] at this
          have hcm : wr.cell? ⟨b, k * 2 + 1, none⟩ = some (.int .i64 m) := by have := HR.out.2.1 _ _ hx.2; rwa [Nat.zero_add, Nat.mul_comm] at this
          have hvj := (HR.out.2.2.2.1 j hj1 hj4).1
          have HST := Lib.hid hst
          clear hx hxe hst
          obtain ⟨z, hz⟩ : ∃ z, v' j = z := ⟨_, rfl⟩
          rw [hz] at hvj
          have HZ := Lib.hid hz
          clear hz
          have hX0 := dg.range_new wr [.pointer (some ⟨g, j, none⟩), .int .i64 m] 59
          have x0 := hX0 0 _ rfl
          have x1 := hX0 1 _ rfl
          have hXb : Below wr.heap.size wr (wr.alloc (.cells #[.pointer (some ⟨g, j, none⟩), .int .i64 m] 59)) := (Below.refl _ _).alloc (Nat.le_refl _) _
          have hgw : g < wr.heap.size := Nat.lt_trans hgb2 HR.out.2.2.2.2
          have xz := (hXb.cell (p := ⟨g, j, none⟩) hgw).trans hvj
          simp only [Nat.zero_add] at x0 x1
          have hbX : Below g w (wr.alloc (.cells #[.pointer (some ⟨g, j, none⟩), .int .i64 m] 59)) := HR.out.2.2.1.trans (hXb.mono (Nat.le_of_lt hgw))
          obtain ⟨X, hX⟩ : ∃ X, wr.alloc (.cells #[.pointer (some ⟨g, j, none⟩), .int .i64 m] 59) = X := ⟨_, rfl⟩
          by_cases hz1 : z < 1
          · have hno : fitO l v true = 100 := fitO_bad _ _ _ (by
              have h9 := goF_app (l.take (k + 1)) (l.drop (k + 1)) v
              rw [List.take_append_drop] at h9
              rw [h9, HST.out]
              simp [goF, HZ.out, hz1])
            obtain rfl : E = 100 := HE.out.symm.trans hno
            go_upto_region 7 with fail
            rw [hX] at x0 x1 xz hXb hbX
            obtain ⟨p5, hp5⟩ : ∃ p, wr.heap.size = p := ⟨_, rfl⟩
            rw [hp5] at x0 x1 ⊢
            clear hX
            go_region
            all_goals
              go_wp2_with fail
              go_ret
              exact ⟨rfl, lz.below_drew hbX⟩
          · by_cases hzm : m < z
            · have hno : fitO l v true = 100 := fitO_bad _ _ _ (by
                have h9 := goF_app (l.take (k + 1)) (l.drop (k + 1)) v
                rw [List.take_append_drop] at h9
                rw [h9, HST.out]
                simp [goF, HZ.out, hzm])
              obtain rfl : E = 100 := HE.out.symm.trans hno
              go_upto_region 7 with fail
              rw [hX] at x0 x1 xz hXb hbX
              obtain ⟨p5, hp5⟩ : ∃ p, wr.heap.size = p := ⟨_, rfl⟩
              rw [hp5] at x0 x1 ⊢
              clear hX
              go_region
              all_goals
                go_wp2_with fail
                go_ret
                exact ⟨rfl, lz.below_drew hbX⟩
            · have hyes : goF (l.take (k + 1)) v = some (fun q => if q = j then 0 else v' q) := by
                rw [HST.out]
                simp [goF, HZ.out, hz1, hzm]
              have HY := Lib.hid hyes
              have hfz := (HR.out.2.2.2.1 j hj1 hj4).2
              have xf : (wr.alloc (.cells #[.pointer (some ⟨g, j, none⟩), .int .i64 m] 59)).frozen? ⟨g, j, none⟩ = false := (World.frozen?_of_block (w := wr) (hXb.block g hgw)).trans hfz
              rw [hX] at xf
              clear hyes hfz
              go_upto_region 7 with fail
              rw [hX] at x0 x1 xz hXb hbX
              obtain ⟨p5, hp5⟩ : ∃ p, wr.heap.size = p := ⟨_, rfl⟩
              rw [hp5] at x0 x1 ⊢
              clear hX
              go_region
              all_goals
                go_wp2_with fail
                have hgb3 : b ≠ g := by omega
                have hbw := HR.out.2.2.2.2
                have hbX2 : b < X.heap.size := Nat.lt_of_lt_of_le hbw hXb.size
                have hk1 := dg.Keep1.set X g j (.int .i64 0)
                have hnX := (HR.out.2.2.2.1.below hXb hgw).set j hj1 hj4
                have hrX := dg.range_keep (dg.range_below HR.out.2.1 hXb hbw) hk1 hbX2 hgb3
                have hbl2 := hk1.below hbX (Nat.le_of_lt (Nat.lt_of_lt_of_le hgw hXb.size)) (Nat.le_refl g)
                exact ⟨⟨k + 1, _, rfl, by go_num, by omega, Lib.hid ⟨HY.out, hrX, lz.below_drew hbl2, fun q q1 q4 => hnX q q1 q4, Nat.lt_of_lt_of_le hbX2 hk1.size⟩⟩, by simp [intOf]; omega⟩
        · obtain rfl : k = l.length := by omega
          have hkn : ¬ ((l.length : Nat) : Int) < (l.length : Int) := by omega
          have hgo : goF l v = some v' := by have := HR.out.1; rwa [List.take_of_length_le (Nat.le_refl _)] at this
          have hE := HE.out.symm.trans (fitO_yes l v v' hlp hgo)
          have n1 := (HR.out.2.2.2.1 1 (by omega) (by omega)).1
          have n2 := (HR.out.2.2.2.1 2 (by omega) (by omega)).1
          have n3 := (HR.out.2.2.2.1 3 (by omega) (by omega)).1
          have n4 := (HR.out.2.2.2.1 4 (by omega) (by omega)).1
          obtain ⟨y1, hy1⟩ : ∃ y, v' 1 = y := ⟨_, rfl⟩
          obtain ⟨y2, hy2⟩ : ∃ y, v' 2 = y := ⟨_, rfl⟩
          obtain ⟨y3, hy3⟩ : ∃ y, v' 3 = y := ⟨_, rfl⟩
          obtain ⟨y4, hy4⟩ : ∃ y, v' 4 = y := ⟨_, rfl⟩
          rw [hy1] at n1 hE
          rw [hy2] at n2 hE
          rw [hy3] at n3 hE
          rw [hy4] at n4 hE
          clear hgo hy1 hy2 hy3 hy4
          by_cases z1 : y1 = 0
          · by_cases z2 : y2 = 0
            · by_cases z3 : y3 = 0
              · by_cases z4 : y4 = 0
                · obtain rfl : E = 0 := by rw [hE, if_pos ⟨z1, z2, z3, z4⟩]
                  clear hE
                  subst z1 z2 z3 z4
                  go_wp2_with fail
                  go_ret
                  exact ⟨rfl, HR.out.2.2.1⟩
                · obtain rfl : E = 100 := by rw [hE, if_neg (fun q => z4 q.2.2.2)]
                  clear hE
                  subst z1 z2 z3
                  have zb : (y4 != 0) = true := bne_iff_ne.2 z4
                  go_wp2_with fail
                  go_ret
                  exact ⟨rfl, HR.out.2.2.1⟩
              · obtain rfl : E = 100 := by rw [hE, if_neg (fun q => z3 q.2.2.1)]
                clear hE
                subst z1 z2
                have zb : (y3 != 0) = true := bne_iff_ne.2 z3
                go_wp2_with fail
                go_ret
                exact ⟨rfl, HR.out.2.2.1⟩
            · obtain rfl : E = 100 := by rw [hE, if_neg (fun q => z2 q.2.1)]
              clear hE
              subst z1
              have zb : (y2 != 0) = true := bne_iff_ne.2 z2
              go_wp2_with fail
              go_ret
              exact ⟨rfl, HR.out.2.2.1⟩
          · obtain rfl : E = 100 := by rw [hE, if_neg (fun q => z1 q.1)]
            clear hE
            have zb : (y1 != 0) = true := bne_iff_ne.2 z1
            go_wp2_with fail
            go_ret
            exact ⟨rfl, HR.out.2.2.1⟩
end Go.Proofs.YtbcgnacfhpahkaaDoor.rc
