/- ChunkAll: for every input the law answers true and leaves its arguments as they were. -/
import Derived.Test.YtjmgokjflfhohaaRows
import Derived.Test.YtjmgokjflfhohaaChG
import Derived.ProofKit
import Derived.OpenShut
import Derived.ShutString
import Derived.ChangeOld
namespace Go.Proofs.Ytjmgokjflfhohaa.chunkAllDone
open Go.RowKit Mem rb ch
set_option linter.unusedVariables false
theorem kept_rdB {w w' : World} {bad : Nat → Prop} {B n : Nat} {A : Option Addr} {xs : List Value} (h : Kept w w' bad) (hr : Rd w B A n xs) (hB : B ≤ w.heap.size) (hb : ∀ i, i < B → ¬ bad i) : Rd w' B A n xs := by
  refine ⟨hr.len, fun hn => ?_⟩
  obtain ⟨c, off, rfl, hc, hcell⟩ := hr.addr hn
  have hnc := hb c hc
  refine ⟨c, off, rfl, hc, fun k hk => ?_⟩
  rw [h.cell (a := ⟨c, off + k, none⟩) (show c < w.heap.size by omega) hnc]
  exact hcell k hk
def RowsA (w : World) (base : Nat) (vs : List Value) : Prop := ∀ v ∈ vs, ∃ (A : Option Addr) (n k : Nat) (x : List UInt8), v = .slice A n k ∧ Ow w base 5 A n k (bv x)
theorem rowsA_of {w : World} {base : Nat} {vs : List Value} {xs : List (List UInt8)} (h : ch.Rows w base vs xs) : RowsA w base vs := by
  induction h with
  | nil => intro v hv; cases hv
  | @cons A n k x vs xs h1 _ ih =>
    intro v hv
    rcases List.mem_cons.1 hv with rfl | hv
    · exact ⟨A, n, k, x, rfl, h1⟩
    · exact ih v hv
theorem rowsA_below {w w' : World} {base : Nat} {vs : List Value} (h : RowsA w base vs) (hb : Below w.heap.size w w') : RowsA w' base vs := fun v hv => by
  obtain ⟨A, n, k, x, e, ho⟩ := h v hv
  exact ⟨A, n, k, x, e, ho.below hb (Nat.le_refl _)⟩
theorem rowsA_set {w : World} {base : Nat} {vs : List Value} (h : RowsA w base vs) (g j : Nat) (y : UInt8) : RowsA (w.setCell ⟨g, j, none⟩ (.int .u8 (y.toNat : Nat))) base vs := fun v hv => by
  obtain ⟨A, n, k, x, e, ho⟩ := h v hv
  by_cases hg : blk A = some g
  · have ho2 := ho
    rcases ho.2 with ⟨e1, e2⟩ | ⟨g2, cap, cur, e1, rest⟩
    · injection e1 with e3
      rw [e3] at hg; cases hg
    · injection e1 with e3 e4 e5
      subst e3
      have h5 : g2 = g := by injection hg
      subst h5
      have hs : Ow (w.setCell ⟨g2, j, none⟩ (.int .u8 (y.toNat : Nat))) base 5 (some ⟨g2, 0, none⟩) n k ((bv x).set j (.int .u8 (y.toNat : Nat))) := (World.ownsRow.stored ho2 j (.int .u8 (y.toNat : Nat))).1
      rw [← bv_set] at hs
      exact ⟨_, n, k, x.set j y, e, hs⟩
  · exact ⟨A, n, k, x, e, (Kept.set w g j _).ow ho (fun i hi e => hg (by rw [hi, e]))⟩
theorem xor_ff (x : UInt8) : bits .xor .u8 (x.toNat : Int) 255 = (((x ^^^ 255).toNat : Nat) : Int) := by
  rw [show (255 : Int) = ((255 : Nat) : Int) from rfl, u8_xor_nat _ _ x.toNat_lt (by decide), UInt8.toNat_xor]
  rfl
def MadeL (w : World) (vs : List Value) (e : Ending) (w' : World) : Prop := ∃ A n k, e = .returned (.slice A n k) ∧ Ow w' w.heap.size 23 A n k vs ∧ Below w.heap.size w w'
theorem cloneL_any (A : Option Addr) (n c B : Nat) (vs : List Value) (w : World) (h : Rd w B A n vs) (h1 : ∀ u ∈ vs, u.oneCell' = true) (hB : B ≤ w.heap.size) (hn : n ≤ 1048576) :
    Calls Try.prog 17 #[.slice A n c] w (MadeL w vs) := by
  have hnil := fun (a : Option Addr) => Lib.run_eql_slice_nil w _ _ a n c 0 0 Try.underlying29
  cases A with
  | none =>
    have h0 : vs = [] := by
      rcases Nat.eq_zero_or_pos n with h0 | h0
      · exact List.eq_nil_of_length_eq_zero (by rw [h.len, h0])
      · obtain ⟨b, off, e, _⟩ := h.addr h0; cases e
    subst h0
    have Hh := Lib.hid h
    clear h h1
    go_enter Try.func17, Try.ntmps17
    go_wp2
    go_ret
    exact ⟨_, _, _, rfl, Ow.nil _ _ _, Below.refl _ _⟩
  | some ad =>
    have hb : Below B w (w.alloc (.cells #[] 23)) := (Below.refl _ _).alloc hB _
    have h2 := h.below hb (Nat.le_refl _)
    have ho := Ow.lit w 23 [] (base := w.heap.size) (Nat.le_refl _) (by simp [maxLen])
    have H1 := Lib.hid h1
    clear h1
    go_enter Try.func17, Try.ntmps17
    go_wp2_with (at_builtin; refine wp_app sty rfl (.tmp 5) (.tmp 6) rfl rfl rfl ho h2 H1.out (by simp; omega) (by simp; omega) (by simp) ?_; intro A' N c' w1 ho1 _ hb1 _)
    go_ret
    exact ⟨_, _, _, rfl, by simpa using ho1, (Below.alloc (Below.refl _ _) (Nat.le_refl _) _).trans hb1⟩
set_option maxRecDepth 100000 in
theorem walk (p : Int) (A : Option Addr) (n c : Nat) (l : List UInt8) (w : World) (hp : (Lit.int .u64 p).wf = true) (hr : Rd w w.heap.size A n (bv l)) (hc : n ≤ c) (hn : n ≤ 9223372036854775807) :
    Calls Try.prog 3 #[.int .u64 p, .slice A n c] w fun e w' => e = .returned (.bool true) ∧ Below w.heap.size w w' := by
  replace hp := u64_nat hp
  obtain ⟨p, rfl, hp⟩ := hp
  by_cases hlong : 8192 < n
  · go_enter Try.func3, Try.ntmps3
    go_wp2_with (go_at_call 12; refine (awake_any _).mono ?_; rintro e w4 ⟨rfl, hb4⟩)
    go_ret
    exact ⟨rfl, hb4⟩
  · have hq := good_log (tq_good p)
    have hT := fresh_tab (tq p) w
    have hb : Below w.heap.size w (w.alloc (.cells (freshT (tq p)) 75)) := (Below.refl _ w).alloc (Nat.le_refl _) _
    have hsz : (w.alloc (.cells (freshT (tq p)) 75)).heap.size = w.heap.size + 1 := by simp
    have HT := fun w => Lib.hid (table_any p w hp)
    obtain ⟨q, hqd⟩ : ∃ q, tq p = q := ⟨_, rfl⟩
    unfold TablePost at HT
    rw [hqd] at hq hT hb hsz HT
    clear hqd
    have HS := Lib.hid (And.intro hb hsz)
    clear hb hsz
    have HL := Lib.hid (show l.length = n by rw [← bv_len, hr.len])
    go_enter Try.func3, Try.ntmps3
    go_wp2_with fail
    refine (HT w).out.mono ?_
    rintro e w1 ⟨rfl, hw1⟩
    rw [← hw1] at hT HS
    clear hw1 HT
    have s1 := HS.out.2
    have hb1 := HS.out.1
    clear HS
    have hr1 := hr.below hb1 (Nat.le_refl _)
    go_wp2_with fail
    refine (clone_any A n c w.heap.size l w1 hr1 hb1.size (by omega)).mono ?_
    rintro e w2 ⟨A3, n3, c3, rfl, ho3, hb12⟩
    obtain rfl : n3 = n := by have h1 := ho3.len; rw [bv_len] at h1; have := HL.out; omega
    have hb2 : Below w.heap.size w w2 := hb1.trans (hb12.mono hb1.size)
    have hT2 := hT.below hb12 (by omega)
    have h3b : ∀ i, blk A3 = some i → w1.heap.size ≤ i ∧ i < w2.heap.size := fun i hi => ho3.blk_lt i hi
    go_wp2_with fail
    refine (all_any A3 n3 c3 w2.heap.size l w2 hq (Or.inl hT2) (fun w' hk => hk.rd ho3.rd (Nat.le_refl _) (fun a ea e => by
      have := (h3b a.block (by rw [ea]; rfl)).1
      omega)) (by omega)).mono ?_
    rintro e w3 ⟨A4, n4, k4, vs4, rfl, hA⟩
    have ho33 := hA.kept.ow ho3 (fun i hi e => by
      have := (h3b i hi).1
      omega)
    have hb3 : Below w.heap.size w w3 := hA.kept.below hb2 hb2.size (fun i hi e => by omega)
    have hr3 := hr.below hb3 (Nat.le_refl _)
    have s3 := hb3.size
    have s23 := hA.kept.size
    have hfew := all_few (rule_ok q) l
    have hn4 : n4 ≤ 8192 := by have h1 := hA.row.len; have h2 := hA.rows.len; have := HL.out; omega
    have hll := HL.out
    have HA := Lib.hid hA
    clear hA hT2 hT
    go_wp2_with fail
    refine (rcut_any w.heap.size n3 c A l w3 hq hr3 s3 hc (by omega)).mono ?_
    rintro e w4 ⟨AO, nO, kO, vsO, AR, m, kR, rfl, hrO, hvO, hrR, hmk, hb34⟩
    have hb4 : Below w.heap.size w w4 := hb3.trans (hb34.mono s3)
    have hoff := HA.out.off
    have hml : m = (cutF (rule q) [] l).2.length := by have := hrR.len; rw [bv_len] at this; exact this.symm
    have hcc := cut_count (rule q) l []
    have hnO : nO = (cutF (rule q) [] l).1.length := by have h1 := hrO.len; have h2 := hvO.len; omega
    have hnO2 : nO ≤ 8192 := by omega
    have key : ∃ AW nW kW vsW, True := ⟨AO, nO, kO, vsO, trivial⟩
    clear key
    by_cases z : m = 0
    · have hnil : (cutF (rule q) [] l).2 = [] := List.eq_nil_of_length_eq_zero (by omega)
      have hall : allF (rule q) l = (cutF (rule q) [] l).1 := by unfold allF; rw [if_pos hnil]
      have hS := sameL_any A4 AO n4 nO k4 kO w4.heap.size w4.heap.size (allF (rule q) l) (allF (rule q) l) w4 ((HA.out.rows.parts HA.out.row).below hb34 (Nat.le_refl _) |>.more hb34.size) (by rw [hall]; exact hvO.parts hrO.rd hb4.size) (by omega) (by omega)
      rw [decide_eq_true rfl] at hS
      have HS := Lib.hid hS
      subst z
      have hGX := (HA.out.kept.rd ho3.rd (Nat.le_refl _) (fun a ea e => by
        have := (h3b a.block (by rw [ea]; rfl)).1
        omega)).below hb34 s23
      have hbWX := hb4
      have hW2 := hb2.size
      have hRA : RowsA w4 w2.heap.size vs4 := rowsA_below (rowsA_of HA.out.rows) hb34
      have hROW : Ow w4 w2.heap.size 23 A4 n4 k4 vs4 := HA.out.row.below hb34 (Nat.le_refl _)
      clear hS hall hnil hvO hrO hrR hmk hml hcc hnO hnO2 hb34
      go_wp2_with (go_at_call 18; refine HS.out.mono ?_; rintro e w' ⟨rfl, rfl⟩)
      go_loopw [11, 12, 46, 47, 48, 49, 50, 51, 52, 53, 54, 55, 56, 57, 58, 59, 60, 61, 62, 63, 64, 65, 66, 67] (fun _ _ v _ _ _ _ _ _ _ _ _ _ _ _ _ _ _ _ _ _ _ _ _ wr => ∃ i : Nat, v = .int .i64 (i : Nat) ∧ i ≤ n4 ∧ RowsA wr w2.heap.size vs4 ∧ Ow wr w2.heap.size 23 A4 n4 k4 vs4 ∧ Below w2.heap.size w4 wr) (fun _ _ v _ _ _ _ _ _ _ _ _ _ _ _ _ _ _ _ _ _ _ _ _ _ => n4 - (intOf v).toNat)
      case atStart => exact ⟨0, rfl, by omega, hRA, hROW, Below.refl _ _⟩
      case round =>
        obtain ⟨i, rfl, hi, hra, hrow, hbx⟩ := hrel
        by_cases hlt : i < n4
        · have hi4 : (i : Int) < (n4 : Int) := by omega
          obtain ⟨g, rfl, hg1, hg2⟩ := hrow.at0 (by omega)
          have hil : i < vs4.length := by have := hrow.len; omega
          obtain ⟨A6, n6, k6, x6, e6, ho6⟩ := hra (vs4[i]) (List.getElem_mem _)
          have hc6 : wr.cell? ⟨g, i, none⟩ = some (.slice A6 n6 k6) := by
            have h1 := hrow.rd
            obtain ⟨g', o', e', _, h2⟩ := h1.at_ hlt
            injection e' with e'; injection e' with e7 e8 e9
            subst e7 e8
            rw [Nat.zero_add] at h2
            rw [h2, List.getElem?_eq_getElem hil, e6]
          have hmem : Value.slice A6 n6 k6 ∈ vs4 := by rw [← e6]; exact List.getElem_mem _
          have hn6 : n6 ≤ 1099511627776 := by
            have h1 := ho6.cap
            have hil2 : i < (allF (rule q) l).length := by have h3 := HA.out.rows.len; omega
            have h2 := HA.out.rows.at_ i hil2
            obtain ⟨A7, n7, k7, e7, e8⟩ := h2
            rw [List.getElem?_eq_getElem hil, e6] at e7
            injection e7 with e7; injection e7 with e9 e10 e11
            subst e10
            have h4 := e8.len
            rw [bv_len] at h4
            have h5 := congrArg List.length (all_whole (rule q) l)
            have h6 : (allF (rule q) l)[i].length ≤ (allF (rule q) l).flatten.length := by
              rw [← tot_flat]
              have t1 := tot_take (allF (rule q) l) i (by have h3 := HA.out.rows.len; omega)
              have t2 := tot_take_le (allF (rule q) l) (i + 1)
              omega
            have := HL.out
            omega
          have hgA : ∀ j, blk A6 = some j → ¬ j = g := fun j hj e => hoff A6 n6 k6 hmem j hj (Or.inr (by rw [e]; rfl))
          clear e6 ho6
          go_wp2_with fail
          go_loopw [12, 54, 55, 56, 57, 58, 59, 60, 61, 62, 63, 64, 65, 66] (fun _ v _ _ _ _ _ _ _ _ _ _ _ _ wr => ∃ j : Nat, v = .int .i64 (j : Nat) ∧ j ≤ n6 ∧ RowsA wr w2.heap.size vs4 ∧ Ow wr w2.heap.size 23 (some ⟨g, 0, none⟩) n4 k4 vs4 ∧ Below w2.heap.size w4 wr ∧ wr.cell? ⟨g, i, none⟩ = some (.slice A6 n6 k6)) (fun _ v _ _ _ _ _ _ _ _ _ _ _ _ _ => n6 - (intOf v).toNat)
          case atStart => exact ⟨0, rfl, by omega, hra, hrow, hbx, hc6⟩
          case round =>
            obtain ⟨j, rfl, hj, hra2, hrow2, hbx2, hc62⟩ := hrel
            by_cases hlt2 : j < n6
            · obtain ⟨A7, n7, k7, x7, e7, ho7⟩ := hra2 _ hmem
              injection e7 with e8 e9 e10
              subst e8 e9 e10
              obtain ⟨g6, rfl, hg61, hg62⟩ := ho7.at0 (by omega)
              have hxl : j < x7.length := by have h1 := ho7.len; rw [bv_len] at h1; omega
              have hst := ho7.set j (.int .u8 ((x7[j] ^^^ 255).toNat : Nat)) hlt2
              have hcell := hst.2.2.1
              have hfr := hst.2.2.2
              rw [bv_at x7 j hxl] at hcell
              obtain ⟨y, hy⟩ : ∃ y, y = x7[j] := ⟨_, rfl⟩
              rw [← hy] at hcell
              have hxor := xor_ff y
              have hra3 := rowsA_set hra2 g6 j (y ^^^ 255)
              have hgne := hgA g6 rfl
              have hrow3 := (Kept.set _ g6 j (.int .u8 ((y ^^^ 255).toNat : Nat))).ow hrow2 (fun a ha e => hgne (by injection ha with h; rw [← e, ← h]))
              have hbx3 := hbx2.setCell (p := ⟨g6, j, none⟩) hg61 (.int .u8 ((y ^^^ 255).toNat : Nat))
              have hc63 : (World.setCell _ ⟨g6, j, none⟩ (.int .u8 ((y ^^^ 255).toNat : Nat))).cell? ⟨g, i, none⟩ = some (.slice (some ⟨g6, 0, none⟩) n6 k6) := (World.cell?_setCell_other _ _ _ _ (fun e => hgne (by injection e))).trans hc62
              have HPK := Lib.hid (And.intro hra3 (And.intro hrow3 (And.intro hbx3 hc63)))
              have hj6 : (j : Int) < (n6 : Int) := by omega
              obtain ⟨yv, hyv⟩ : ∃ v : Nat, v = (y ^^^ 255).toNat := ⟨_, rfl⟩
              obtain ⟨yw, hyw⟩ : ∃ v : Nat, v = y.toNat := ⟨_, rfl⟩
              rw [← hyv] at HPK hxor
              rw [← hyw] at hxor hcell
              clear hst hra3 hrow3 hbx3 hc63 hy hyv hyw
              go_wp2_with fail
              go_roundw
              case rel => exact ⟨j + 1, by go_num, by omega, HPK.out.1, HPK.out.2.1, HPK.out.2.2.1, HPK.out.2.2.2⟩
              case measure => simp only [intOf]; omega
            · go_wp2_with fail
              go_roundw
              case rel => exact ⟨i + 1, by go_num, by omega, hra2, hrow2, hbx2⟩
              case measure => simp only [intOf]; omega
        · have hr9 := hr.below (hbWX.trans (hbx.mono hW2)) (Nat.le_refl _)
          have hg9 := hGX.below hbx (Nat.le_refl _)
          have hE := equal_any A3 A n3 c3 n3 c w2.heap.size l l wr hg9 (hr9.more hW2)
          rw [decide_eq_true rfl] at hE
          have HE := Lib.hid hE
          have hb9 : Below w.heap.size w wr := hbWX.trans (hbx.mono hW2)
          clear hE hr9 hg9 hra hrow
          go_wp2_with (first
            | (go_at_call 19; refine HE.out.mono ?_; rintro e w' ⟨rfl, rfl⟩)
            | (go_at_call 12; refine (awake_any _).mono ?_; rintro e w11 ⟨rfl, hb11⟩))
          go_ret
          exact ⟨rfl, hb9.trans (hb11.mono hb9.size)⟩
    · have hne : (cutF (rule q) [] l).2 ≠ [] := by intro e; rw [e] at hml; exact z hml
      have hall : allF (rule q) l = (cutF (rule q) [] l).1 ++ [(cutF (rule q) [] l).2] := by unfold allF; rw [if_neg hne]
      have zp : (0 : Int) < (m : Int) := by omega
      clear hml hnO
      have hCL := Lib.hid (cloneL_any AO nO kO w4.heap.size vsO w4 hrO.rd hvO.one (Nat.le_refl _) (by omega))
      go_wp2_with fail
      refine hCL.out.mono ?_
      rintro e w5 ⟨A5, n5, k5, rfl, ho5, hb45⟩
      have hn5 : n5 ≤ 8192 := by have h1 := ho5.len; have h2 := hrO.len; omega
      have s45 := hb45.size
      have hrow5 : Ow w5 w4.heap.size 23 A5 n5 k5 vsO := ho5
      go_wp2_with (at_builtin; refine wp_app sty rfl (.tmp 37) (.tmp 39) rfl rfl rfl (hrow5.alloc _) (Rd.one _ (.slice AR m kR) _) (one1 (x := .slice AR m kR) rfl) (by omega) (by omega) (by simp; omega) ?_; intro A8 n8 k8 w6 ho8 hN8 hb8 hg8; clear hg8)
      have hb56 : Below w4.heap.size w5 w6 := ((Below.refl _ w5).alloc s45 _).trans hb8
      have hb46 : Below w4.heap.size w4 w6 := hb45.trans hb56
      have hb36 : Below w3.heap.size w3 w6 := hb34.trans (hb46.mono hb34.size)
      have hb6 : Below w.heap.size w w6 := hb4.trans (hb46.mono hb4.size)
      have hv6 := (hvO.under hb46 hb4.size).snoc (hrR.below hb46 hb4.size) hmk
      rw [← hall] at hv6
      have hS := sameL_any A4 A8 n4 n8 k4 k8 w6.heap.size w6.heap.size (allF (rule q) l) (allF (rule q) l) w6 ((HA.out.rows.parts HA.out.row).below hb36 (Nat.le_refl _) |>.more hb36.size) (hv6.parts ho8.rd hb6.size) (by omega) (by omega)
      rw [decide_eq_true rfl] at hS
      have HS := Lib.hid hS
      have hRA : RowsA w6 w2.heap.size vs4 := rowsA_below (rowsA_of HA.out.rows) hb36
      have hROW : Ow w6 w2.heap.size 23 A4 n4 k4 vs4 := HA.out.row.below hb36 (Nat.le_refl _)
      have hGX := (HA.out.kept.rd ho3.rd (Nat.le_refl _) (fun a ea e => by
        have := (h3b a.block (by rw [ea]; rfl)).1
        omega)).below hb36 s23
      have hbWX := hb6
      have hW2 := hb2.size
      clear hS hall hne hvO hrO hrR hmk hcc hnO2 hb34 hv6 ho8 hb8 hb45 ho5 hrow5 hCL hb46 hb56 hb36
      go_wp2_with (go_at_call 18; refine HS.out.mono ?_; rintro e w' ⟨rfl, rfl⟩)
      go_loopw [11, 12, 46, 47, 48, 49, 50, 51, 52, 53, 54, 55, 56, 57, 58, 59, 60, 61, 62, 63, 64, 65, 66, 67] (fun _ _ v _ _ _ _ _ _ _ _ _ _ _ _ _ _ _ _ _ _ _ _ _ wr => ∃ i : Nat, v = .int .i64 (i : Nat) ∧ i ≤ n4 ∧ RowsA wr w2.heap.size vs4 ∧ Ow wr w2.heap.size 23 A4 n4 k4 vs4 ∧ Below w2.heap.size w6 wr) (fun _ _ v _ _ _ _ _ _ _ _ _ _ _ _ _ _ _ _ _ _ _ _ _ _ => n4 - (intOf v).toNat)
      case atStart => exact ⟨0, rfl, by omega, hRA, hROW, Below.refl _ _⟩
      case round =>
        obtain ⟨i, rfl, hi, hra, hrow, hbx⟩ := hrel
        by_cases hlt : i < n4
        · have hi4 : (i : Int) < (n4 : Int) := by omega
          obtain ⟨g, rfl, hg1, hg2⟩ := hrow.at0 (by omega)
          have hil : i < vs4.length := by have := hrow.len; omega
          obtain ⟨A6, n6, k6, x6, e6, ho6⟩ := hra (vs4[i]) (List.getElem_mem _)
          have hc6 : wr.cell? ⟨g, i, none⟩ = some (.slice A6 n6 k6) := by
            have h1 := hrow.rd
            obtain ⟨g', o', e', _, h2⟩ := h1.at_ hlt
            injection e' with e'; injection e' with e7 e8 e9
            subst e7 e8
            rw [Nat.zero_add] at h2
            rw [h2, List.getElem?_eq_getElem hil, e6]
          have hmem : Value.slice A6 n6 k6 ∈ vs4 := by rw [← e6]; exact List.getElem_mem _
          have hn6 : n6 ≤ 1099511627776 := by
            have h1 := ho6.cap
            have hil2 : i < (allF (rule q) l).length := by have h3 := HA.out.rows.len; omega
            have h2 := HA.out.rows.at_ i hil2
            obtain ⟨A7, n7, k7, e7, e8⟩ := h2
            rw [List.getElem?_eq_getElem hil, e6] at e7
            injection e7 with e7; injection e7 with e9 e10 e11
            subst e10
            have h4 := e8.len
            rw [bv_len] at h4
            have h5 := congrArg List.length (all_whole (rule q) l)
            have h6 : (allF (rule q) l)[i].length ≤ (allF (rule q) l).flatten.length := by
              rw [← tot_flat]
              have t1 := tot_take (allF (rule q) l) i (by have h3 := HA.out.rows.len; omega)
              have t2 := tot_take_le (allF (rule q) l) (i + 1)
              omega
            have := HL.out
            omega
          have hgA : ∀ j, blk A6 = some j → ¬ j = g := fun j hj e => hoff A6 n6 k6 hmem j hj (Or.inr (by rw [e]; rfl))
          clear e6 ho6
          go_wp2_with fail
          go_loopw [12, 54, 55, 56, 57, 58, 59, 60, 61, 62, 63, 64, 65, 66] (fun _ v _ _ _ _ _ _ _ _ _ _ _ _ wr => ∃ j : Nat, v = .int .i64 (j : Nat) ∧ j ≤ n6 ∧ RowsA wr w2.heap.size vs4 ∧ Ow wr w2.heap.size 23 (some ⟨g, 0, none⟩) n4 k4 vs4 ∧ Below w2.heap.size w6 wr ∧ wr.cell? ⟨g, i, none⟩ = some (.slice A6 n6 k6)) (fun _ v _ _ _ _ _ _ _ _ _ _ _ _ _ => n6 - (intOf v).toNat)
          case atStart => exact ⟨0, rfl, by omega, hra, hrow, hbx, hc6⟩
          case round =>
            obtain ⟨j, rfl, hj, hra2, hrow2, hbx2, hc62⟩ := hrel
            by_cases hlt2 : j < n6
            · obtain ⟨A7, n7, k7, x7, e7, ho7⟩ := hra2 _ hmem
              injection e7 with e8 e9 e10
              subst e8 e9 e10
              obtain ⟨g6, rfl, hg61, hg62⟩ := ho7.at0 (by omega)
              have hxl : j < x7.length := by have h1 := ho7.len; rw [bv_len] at h1; omega
              have hst := ho7.set j (.int .u8 ((x7[j] ^^^ 255).toNat : Nat)) hlt2
              have hcell := hst.2.2.1
              have hfr := hst.2.2.2
              rw [bv_at x7 j hxl] at hcell
              obtain ⟨y, hy⟩ : ∃ y, y = x7[j] := ⟨_, rfl⟩
              rw [← hy] at hcell
              have hxor := xor_ff y
              have hra3 := rowsA_set hra2 g6 j (y ^^^ 255)
              have hgne := hgA g6 rfl
              have hrow3 := (Kept.set _ g6 j (.int .u8 ((y ^^^ 255).toNat : Nat))).ow hrow2 (fun a ha e => hgne (by injection ha with h; rw [← e, ← h]))
              have hbx3 := hbx2.setCell (p := ⟨g6, j, none⟩) hg61 (.int .u8 ((y ^^^ 255).toNat : Nat))
              have hc63 : (World.setCell _ ⟨g6, j, none⟩ (.int .u8 ((y ^^^ 255).toNat : Nat))).cell? ⟨g, i, none⟩ = some (.slice (some ⟨g6, 0, none⟩) n6 k6) := (World.cell?_setCell_other _ _ _ _ (fun e => hgne (by injection e))).trans hc62
              have HPK := Lib.hid (And.intro hra3 (And.intro hrow3 (And.intro hbx3 hc63)))
              have hj6 : (j : Int) < (n6 : Int) := by omega
              obtain ⟨yv, hyv⟩ : ∃ v : Nat, v = (y ^^^ 255).toNat := ⟨_, rfl⟩
              obtain ⟨yw, hyw⟩ : ∃ v : Nat, v = y.toNat := ⟨_, rfl⟩
              rw [← hyv] at HPK hxor
              rw [← hyw] at hxor hcell
              clear hst hra3 hrow3 hbx3 hc63 hy hyv hyw
              go_wp2_with fail
              go_roundw
              case rel => exact ⟨j + 1, by go_num, by omega, HPK.out.1, HPK.out.2.1, HPK.out.2.2.1, HPK.out.2.2.2⟩
              case measure => simp only [intOf]; omega
            · go_wp2_with fail
              go_roundw
              case rel => exact ⟨i + 1, by go_num, by omega, hra2, hrow2, hbx2⟩
              case measure => simp only [intOf]; omega
        · have hr9 := hr.below (hbWX.trans (hbx.mono hW2)) (Nat.le_refl _)
          have hg9 := hGX.below hbx (Nat.le_refl _)
          have hE := equal_any A3 A n3 c3 n3 c w2.heap.size l l wr hg9 (hr9.more hW2)
          rw [decide_eq_true rfl] at hE
          have HE := Lib.hid hE
          have hb9 : Below w.heap.size w wr := hbWX.trans (hbx.mono hW2)
          clear hE hr9 hg9 hra hrow
          go_wp2_with (first
            | (go_at_call 19; refine HE.out.mono ?_; rintro e w' ⟨rfl, rfl⟩)
            | (go_at_call 12; refine (awake_any _).mono ?_; rintro e w11 ⟨rfl, hb11⟩))
          go_ret
          exact ⟨rfl, hb9.trans (hb11.mono hb9.size)⟩
end Go.Proofs.Ytjmgokjflfhohaa.chunkAllDone
namespace Go.Proofs.Ytjmgokjflfhohaa.chunkAllDone
open Go.ChangeShapes Go.WideShapes Go.ChangeAt Go.RowKit Mem rb ch
set_option linter.unusedVariables false
theorem own : ownKnob Try.prog.godebug = none := by kernel_rfl
theorem laidOut : laidOutB Try.prog = true := by kernel_rfl
set_option maxRecDepth 100000 in
theorem lifted (os : Os) (started : os.Started) (H : Type) (enc : TypeId × Value → H) :
    ReturnsInHanded {} Try.checked os 3 .any (Rows.chunkAllSpec.pre6 enc Try.prog Try.f3 Rows.chunkAllRow.domain false) (Rows.chunkAllSpec.post enc Try.prog Try.f3 false true false false) := by
  refine returnsInHanded_of_change (C := Try.checked) own started (by kernel_rfl) Try.func3
    (ChangeSpec.witness6 (enc := enc) (C := Try.checked) false ⟨#[], #[.int .u64 0, .slice none 0 0], []⟩ 8 (by kernel_rfl) (by kernel_rfl) (by kernel_rfl) (by kernel_rfl)) ?_
  intro W base args ds gs before hval0 hW hcnd _
  have hval : ∀ (j : Nat) t v, Try.f3.params[j]? = some t → args[j]? = some v → Value.okWide Try.prog W .any base t v := hval0
  have hW' := hW
  obtain ⟨p, q, hA0, hV, rfl, hfz, hnd⟩ := hW
  have hA : DataW.TrodAll enc Try.prog W 0 (fun _ => true) true Try.f3.params.toList args.toList ds p := hA0
  rw [Try.params3] at hA hval
  obtain ⟨v0, vs0, d0, ds0, p0, q0, hargs, rfl, rfl, h0, r0⟩ := trodAll_cons hA
  obtain ⟨v1, vs1, d1, ds1, p1, q1, rfl, rfl, rfl, h1, r1⟩ := trodAll_cons r0
  obtain ⟨rfl, rfl, rfl⟩ := trodAll_nil r1
  obtain rfl : args = #[v0, v1] := by cases args; simp_all
  obtain ⟨rfl, rfl⟩ := trodVars_none hV
  obtain ⟨a0, rfl, rfl, rfl, w0⟩ := open_int Try.underlying22 (hval 0 22 v0 rfl rfl) h0
  obtain ⟨a1, n1, c1, rfl⟩ := okWide_slice Try.underlying23 (hval 1 23 v1 rfl rfl)
  have k1 := h1
  have lt1 : ∀ x ∈ p1, x.block < W.heap.size := by obtain ⟨m, hm⟩ := k1; exact DataW.trod_lt m _ _ _ hm
  obtain ⟨l1, w1, m1, b1⟩ : ∃ l : List UInt8, Rd W W.heap.size a1 n1 (bv l) ∧ n1 ≤ c1 ∧ n1 ≤ 9223372036854775807 := by
    obtain ⟨fuel, hf⟩ := h1
    rcases open_ints Try.underlying23 Try.underlying5 (by kernel_rfl) hf with ⟨hcs, _⟩ | ⟨x, l, c, zs, hcs, _, hl, hm, hz, _, hcell, hwz⟩
    · simp [Value.cells] at hcs
      obtain ⟨rfl, rfl, rfl⟩ := hcs
      exact ⟨[], Rd.nil _ _ _, Nat.le_refl _, by omega⟩
    · simp [Value.cells] at hcs
      obtain ⟨rfl, rfl, rfl⟩ := hcs
      unfold maxLen at hm
      obtain ⟨l, hl2⟩ := rd_bytes hl (by simpa using hz) hcell hwz
      exact ⟨l, hl2, hl, by omega⟩
  clear hA0 hval0
  refine (walk a0 a1 n1 c1 l1 W w0 w1 m1 b1).mono fun e W' ⟨he, bel⟩ => ?_
  subst he
  exact ⟨_, rfl, _, _, _, [], _, [], hW', trodAll_mk1 (shut_bool Try.underlying4 _), (trodAll_cons_mk (shut_int Try.underlying22 w0) (trodAll_cons_mk (Below.trod laidOut (by kernel_rfl) (of_decide_eq_true (by kernel_rfl)) k1 bel lt1) trodAll_mk0)), rfl, bel.frame _, fun h => by cases h⟩

theorem over : Rows.chunkAllRow.holds Try.pinned (OpenSpec.ofChange Rows.chunkAllSpec) :=
  OpenClaim.holds_of_wide 3 Try.f3 rfl rfl rfl rfl rfl rfl rfl ⟨rfl, rfl, rfl, rfl, rfl⟩ rfl rfl rfl rfl rfl (by kernel_rfl) Try.func3 (by kernel_rfl)
    (of_decide_eq_true (by kernel_rfl)) (by unfold Func.isWrapper; first | (rw [if_pos (by decide +kernel)]; kernel_rfl) | (rw [if_neg (by decide +kernel)]; exact ⟨rfl, rfl⟩))
    (fun os started H enc _ => lifted os started H enc)
/-- the given statement -/
theorem proved : Rows.ChunkAllSaid := over
#print axioms proved
end Go.Proofs.Ytjmgokjflfhohaa.chunkAllDone
