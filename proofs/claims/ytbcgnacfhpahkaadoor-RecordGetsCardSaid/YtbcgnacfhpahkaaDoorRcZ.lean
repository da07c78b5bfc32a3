/- RcX, RcY, RcPs in one. -/
import Derived.Test.YtbcgnacfhpahkaaDoorRcSV
import Derived.Test.YtbcgnacfhpahkaaDoorRcWa
import Derived.Test.YtbcgnacfhpahkaaDoorRcWb
import Derived.Test.YtbcgnacfhpahkaaDoorRcWc
import Derived.ChangeOld
import Derived.Deep.Strs
namespace Go.Proofs.YtbcgnacfhpahkaaDoor.rc
set_option maxRecDepth 20000
open Go.RowKit Mem OM LM DM
set_option linter.unusedVariables false
set_option linter.unusedSimpArgs false
attribute [local go_sem] Oper.semAt_some
/-- the bytes of some numbers -/
def nbs (l : List Int) : List UInt8 := l.flatMap fun x => numB x.toNat
theorem nbs_snoc (l : List Int) (x : Int) : nbs (l ++ [x]) = nbs l ++ numB x.toNat := by simp [nbs]
theorem nbs_len (l : List Int) : (nbs l).length ≤ 9 * l.length := by
  induction l with
  | nil => simp [nbs]
  | cons x r ih =>
    have e : nbs (x :: r) = numB x.toNat ++ nbs r := by simp [nbs]
    rw [e]
    have := numB_le x.toNat
    simp only [List.length_append, List.length_cons]
    omega
theorem numsV_nbs (N F P D I : Int) : numsV (flds N) (v0 F P D I) = nbs (numL N F P D I) := by
  unfold flds numL
  split
  · simp [numsV, nbs, v0]
  · split
    · simp [numsV, nbs, v0]
    · split <;> simp [numsV, nbs, v0]
theorem bv_snoc8 (l : List UInt8) (z : UInt8) : bv (l ++ [z]) = bv l ++ [.int .u8 ((z.toNat : Nat) : Int)] := by simp [bv]
theorem numL_len (N F P D I : Int) : (numL N F P D I).length ≤ 3 := by
  unfold numL
  split
  · simp
  · split
    · simp
    · split <;> simp
theorem numL_range {N F P D I : Int} (hF : -9223372036854775808 ≤ F ∧ F ≤ 9223372036854775807) (hP : -9223372036854775808 ≤ P ∧ P ≤ 9223372036854775807) (hD : -9223372036854775808 ≤ D ∧ D ≤ 9223372036854775807) (hI : -9223372036854775808 ≤ I ∧ I ≤ 9223372036854775807) : ∀ x ∈ numL N F P D I, -9223372036854775808 ≤ x ∧ x ≤ 9223372036854775807 := by
  intro x hx
  unfold numL at hx
  split at hx
  · simp at hx; rcases hx with rfl | rfl | rfl <;> assumption
  · split at hx
    · simp at hx; rcases hx with rfl | rfl <;> assumption
    · split at hx
      · simp at hx; subst hx; assumption
      · simp at hx
set_option maxHeartbeats 8000000 in
theorem refPut_of (N F P D I K S : Int) (d : List UInt8) (hd : d.length = 32) (A : Option Addr) (n c B : Nat) (x : List UInt8) (w : World) (h : Rd w B A n (bv x)) (hB : B ≤ w.heap.size) (hn : n ≤ 1048576)
    (hN : -9223372036854775808 ≤ N ∧ N ≤ 9223372036854775807) (hK : -9223372036854775808 ≤ K ∧ K ≤ 9223372036854775807) (hS : -9223372036854775808 ≤ S ∧ S ≤ 9223372036854775807) (hV : ∀ x ∈ numL N F P D I, -9223372036854775808 ≤ x ∧ x ≤ 9223372036854775807)
    (hfit : ∀ y : World, Calls Tryd.prog 16 #[.agg (noteL N F P D I K S d A n c).toArray] y fun e w' => e = .returned (.int .i64 (fitE N F P D I K S d n : Nat)) ∧ Below y.heap.size y w') :
    Calls Tryd.prog 25 #[.agg (noteL N F P D I K S d A n c).toArray] w (MadeE w (putR N F P D I K S d x)) := by
  have hxl : x.length = n := by rw [← h.len, bv_len]
  have hr := dg.range_new w (noteL N F P D I K S d A n c) 28
  have hb : Below w.heap.size w (w.alloc (.cells (noteL N F P D I K S d A n c).toArray 28)) := (Below.refl _ _).alloc (Nat.le_refl _) _
  have hlt : w.heap.size < (w.alloc (.cells (noteL N F P D I K S d A n c).toArray 28)).heap.size := by simp
  have hNL := noteL_len (N := N) (F := F) (P := P) (D := D) (I := I) (K := K) (S := S) (A := A) (n := n) (c := c) hd
  have hinf : (Tryd.prog.info? 28).map (·.size) = some (noteL N F P D I K S d A n c).length := by rw [hNL]; kernel_rfl
  have c0 : (w.alloc (.cells (noteL N F P D I K S d A n c).toArray 28)).cell? ⟨w.heap.size, 0, none⟩ = some (.int .i64 N) := hr 0 _ rfl
  have hnm := fun y => refNumbers_any N F P D I K S d hd A n c y
  unfold NumPost at hnm
  have hrec := note_rec hr
  obtain ⟨NL, hNLe⟩ : ∃ NL, noteL N F P D I K S d A n c = NL := ⟨_, rfl⟩
  rw [hNLe] at hr hb hlt hinf c0 hrec ⊢
  simp only [hNLe] at hfit hnm
  obtain ⟨NA, hNA⟩ : ∃ NA, NL.toArray = NA := ⟨_, rfl⟩
  rw [hNA] at hr hb hlt c0 hrec ⊢
  simp only [hNA] at hfit hnm
  obtain ⟨W, hW⟩ : ∃ W, w.alloc (.cells NA 28) = W := ⟨_, rfl⟩
  rw [hW] at hr hb hlt c0 hrec
  have h3 := numL_len N F P D I
  have hbytes := numsV_nbs N F P D I
  have hpb : putB N F P D I K S d x = numB N.toNat ++ numsV (flds N) (v0 F P D I) ++ (if N = 2 then recB K S d x else []) := rfl
  rw [hbytes] at hpb
  obtain ⟨l, hl⟩ : ∃ z, numL N F P D I = z := ⟨_, rfl⟩
  rw [hl] at h3 hpb hV
  simp only [hl] at hnm
  have HH := Lib.hid (And.intro h (And.intro hxl hrec))
  have HPB := Lib.hid hpb
  have HV := Lib.hid hV
  clear h hxl hrec hV hpb hbytes hl
  unfold MadeE putR
  rw [HH.out.2.1]
  rcases fitE_two N F P D I K S d n with hf0 | hf1
  · rw [if_pos hf0]
    rw [hf0] at hfit
    obtain ⟨g, hg⟩ : ∃ g, w.heap.size = g := ⟨_, rfl⟩
    rw [hg] at hr hb hlt c0 ⊢
    go_enter Tryd.func25, Tryd.ntmps25
    go_upto_region 1 with fail
    try rw [hW]
    try rw [hg]
    go_upto_region 4 with (first
      | (refine wpList_load_mid_g rfl 28 (.tmp 1) rfl g 0 rfl NL _ hr Tryd.underlying28 rfl hinf ?_; rw [hNA])
      | (go_at_call 16; refine (hfit _).mono ?_; rintro e w2 ⟨rfl, hb2⟩; have c02 := (hb2.cell (p := ⟨g, 0, none⟩) hlt).trans c0)
      | (go_at_call 44; refine (oct.refNumber_any none 0 0 0 N [] w2 (Rd.nil _ _ _) (Nat.zero_le _) (by omega) hN.1 hN.2).mono ?_; rintro e w3 ⟨A3, N3, c3, rfl, ho3, hb3⟩)
      | fail)
    have c03 := (hb3.cell (p := ⟨g, 0, none⟩) (Nat.lt_of_lt_of_le hlt hb2.size)).trans c02
    have hlt2 : g < w2.heap.size := Nat.lt_of_lt_of_le hlt hb2.size
    have hlt3 : g < w3.heap.size := Nat.lt_of_lt_of_le hlt (Nat.le_trans hb2.size hb3.size)
    have hb13 : Below W.heap.size W w3 := hb2.trans (hb3.mono hb2.size)
    have hnl3 : N3 ≤ 9 := by have := ho3.len; rw [bv_len, List.nil_append] at this; have := numB_le N.toNat; omega
    have hr3 := dg.range_below hr hb13 hlt
    have hrec2 := HH.out.2.2
    rw [hg] at hrec2
    have H3 := Lib.hid (And.intro (hb.trans (hb13.mono (Nat.le_of_lt hlt))) (And.intro (dg.range_below hrec2 hb13 hlt) ho3))
    clear ho3 hb3 hb13 hrec2 c0 c02 hr hfit hb2
    go_upto_region 5 with (first
      | (refine wpList_load_mid_g rfl 28 (.tmp 1) rfl g 0 rfl NL _ hr3 Tryd.underlying28 rfl hinf ?_; rw [hNA])
      | (go_at_call 35; refine (hnm _).mono ?_; rintro e w4 ⟨A4, rfl, hA0, hA1, hrd, hb4⟩)
      | fail)
    have hlt4 : g < w4.heap.size := Nat.lt_of_lt_of_le hlt3 hb4.size
    have c04 := (hb4.cell (p := ⟨g, 0, none⟩) hlt3).trans c03
    have H4 := Lib.hid (And.intro (H3.out.1.trans (hb4.mono (Nat.le_of_lt hlt3))) (And.intro (dg.range_below H3.out.2.1 hb4 hlt3) (And.intro ((H3.out.2.2.below hb4 (Nat.le_refl _)).base (Nat.le_of_lt hlt2) : Ow w4 g 5 A3 N3 c3 (bv ([] ++ numB N.toNat))) hrd)))
    clear hA0 hA1 hrd H3 hb4 c03 hr3 hnm
    go_wp2_with fail
    go_loopw [4, 17] (fun s i wr => ∃ (k : Nat) (A5 : Option Addr) (N5 c5 : Nat), s = .slice A5 N5 c5 ∧ i = .int .i64 k ∧ k ≤ l.length ∧ N5 ≤ 9 + 9 * k ∧ Hid (Ow wr g 5 A5 N5 c5 (bv (numB N.toNat ++ nbs (l.take k))) ∧ Below w4.heap.size w4 wr)) (fun _ i _ => l.length - (intOf i).toNat)
    case atStart => exact ⟨0, A3, N3, c3, rfl, rfl, by omega, by omega, Lib.hid ⟨by have := H4.out.2.2.1; simpa [nbs] using this, Below.refl _ _⟩⟩
    case round =>
      obtain ⟨k, A5, N5, c5, rfl, rfl, hk, hN5, HR⟩ := hrel
      by_cases hkl : k < l.length
      · have hki : (k : Int) < (l.length : Int) := by omega
        have hlw : g < wr.heap.size := Nat.lt_of_lt_of_le hlt4 HR.out.2.size
        have hrdw := H4.out.2.2.2.below HR.out.2 (Nat.le_refl _)
        obtain ⟨b, off, rfl, hB4, hcell⟩ := hrdw.at_ hkl
        have hce : wr.cell? ⟨b, off + k, none⟩ = some (.int .i64 l[k]) := hcell.trans (by simp [nv, hkl])
        have hst : numB N.toNat ++ nbs (l.take (k + 1)) = numB N.toNat ++ nbs (l.take k) ++ numB (l[k]).toNat := by
          rw [List.take_succ_eq_append_getElem hkl, nbs_snoc, List.append_assoc]
        have hvr := HV.out _ (List.getElem_mem hkl)
        obtain ⟨z, hz⟩ : ∃ z, l[k] = z := ⟨_, rfl⟩
        rw [hz] at hce hst hvr
        have HST := Lib.hid hst
        have HNUM := Lib.hid (oct.refNumber_any A5 N5 c5 _ z _ wr HR.out.1.rd (Nat.le_refl _) (by omega) hvr.1 hvr.2)
        clear hcell hst hz hrdw
        go_wp2_with (go_at_call 44; refine (HNUM.out).mono ?_; rintro e w7 ⟨A7, N7, c7, rfl, ho7, hb7⟩)
        have hbX : Below w4.heap.size w4 w7 := HR.out.2.trans (hb7.mono HR.out.2.size)
        have ho8 := ho7.base (Nat.le_of_lt hlw)
        rw [← HST.out] at ho8
        have hN7 : N7 ≤ 9 + 9 * (k + 1) := by
          have h1 := ho8.len
          rw [bv_len, List.length_append] at h1
          have h2 := numB_le N.toNat
          have h4 := nbs_len (l.take (k + 1))
          have h5 : (l.take (k + 1)).length ≤ k + 1 := by simp; omega
          omega
        go_roundw
        case rel => exact ⟨k + 1, A7, N7, c7, rfl, by go_num, by omega, by omega, Lib.hid ⟨ho8, hbX⟩⟩
        case measure => simp [intOf]; omega
      · obtain rfl : k = l.length := by omega
        have hkn : ¬ ((l.length : Nat) : Int) < (l.length : Int) := by omega
        have hlw : g < wr.heap.size := Nat.lt_of_lt_of_le hlt4 HR.out.2.size
        have hgw : Below g w wr := H4.out.1.trans (HR.out.2.mono (Nat.le_of_lt hlt4))
        have c0r := (HR.out.2.cell (p := ⟨g, 0, none⟩) hlt4).trans c04
        have hrr := dg.range_below H4.out.2.1 HR.out.2 hlt4
        have hoR := HR.out.1
        rw [List.take_of_length_le (Nat.le_refl _)] at hoR
        have hN5' : N5 ≤ 36 := by omega
        by_cases h2 : N = 2
        · have hbytes := HPB.out
          rw [if_pos h2] at hbytes
          have c5r : wr.cell? ⟨g, 5, none⟩ = some (.int .i64 K) := hrr 0 _ rfl
          have c6r : wr.cell? ⟨g, 6, none⟩ = some (.int .i64 S) := hrr 1 _ rfl
          have hrdA := (HH.out.1.below (by rw [← hg] at hgw; exact hgw) hB : Rd wr B A n (bv x))
          have HP := Lib.hid (And.intro hbytes (And.intro hoR (And.intro hgw (And.intro hrr hrdA))))
          obtain ⟨pre, hpre⟩ : ∃ pre, numB N.toNat ++ nbs l = pre := ⟨_, rfl⟩
          rw [hpre] at HP hoR
          clear hbytes hgw hrr hrdA
          subst h2
          have hleK := numB_le K.toNat
          have hleS := numB_le S.toNat
          go_upto_region 10 with fail
          have hS0 : Below wr.heap.size wr wr.drew := lz.below_drew (Below.refl _ _)
          obtain ⟨wz, hwz⟩ : ∃ z, wr.drew = z := ⟨_, rfl⟩
          have HS := Lib.hid hS0
          rw [hwz] at HS
          have HNUM := Lib.hid (oct.refNumber_any A5 N5 c5 _ K _ wz (hoR.below HS.out (Nat.le_refl _)).rd (Nat.le_refl _) (by omega) hK.1 hK.2)
          clear hoR
          refine wp_region_held_drew (S := fun y => Below wr.heap.size wr y) (by kernel_rfl) hS0 (fun hHeld => ?_)
          rw [hwz] at hHeld ⊢
          clear hwz hS0
          refine wpAnyH_take (i := 0) (oi := { dst := some 28, op := Op.move (Operand.tmp 4), type := 24, pos := "ref.go:111", after := #[], guard := none }) (v := .slice A5 N5 c5) rfl (by kernel_rfl) (by kernel_rfl) (by kernel_rfl) (fun _ _ _ h => h) (Or.inl ⟨by rfl, ?hy1_0⟩) (by assumption) ?rest1_0
          case hy1_0 => (intro w hSw; (try dsimp only at hSw); go_simp; try with_reducible rfl)
          try simp only [Act.put, List.setIfInBounds_toArray, List.set_cons_zero, List.set_cons_succ]
          refine wpAnyH_take (i := 1) (oi := { dst := some 29, op := Op.fieldAddr 28 (Operand.tmp 1) 5, type := 0, pos := "ref.go:111", after := #[], guard := none }) (v := .pointer (some ⟨g, 5, none⟩)) rfl (by kernel_rfl) (by kernel_rfl) (by kernel_rfl) (fun _ _ _ h => h) (Or.inl ⟨by rfl, ?hy1_1⟩) (by assumption) ?rest1_1
          case hy1_1 => (intro w hSw; (try dsimp only at hSw); go_simp; try with_reducible rfl)
          try simp only [Act.put, List.setIfInBounds_toArray, List.set_cons_zero, List.set_cons_succ]
          refine wpAnyH_take (i := 2) (oi := { dst := some 30, op := Op.fieldAddr 26 (Operand.tmp 29) 0, type := 0, pos := "ref.go:111", after := #[{ on := 1, ground := Ground.data }], guard := none }) (v := .pointer (some ⟨g, 5, none⟩)) rfl (by kernel_rfl) (by kernel_rfl) (by kernel_rfl) (fun _ _ _ h => h) (Or.inl ⟨by rfl, ?hy1_2⟩) (by assumption) ?rest1_2
          case hy1_2 => (intro w hSw; (try dsimp only at hSw); go_simp; try with_reducible rfl)
          try simp only [Act.put, List.setIfInBounds_toArray, List.set_cons_zero, List.set_cons_succ]
          refine wpAnyH_take (i := 3) (oi := { dst := some 31, op := Op.load 3 (Operand.tmp 30), type := 3, pos := "ref.go:111", after := #[{ on := 2, ground := Ground.data }], guard := none }) (v := .int .i64 K) rfl (by kernel_rfl) (by kernel_rfl) (by kernel_rfl) (fun _ _ _ h => h) (Or.inl ⟨by rfl, ?hy1_3⟩) (by assumption) ?rest1_3
          case hy1_3 => (intro w hSw; have hq := (Below.cell hSw (p := ⟨g, 5, none⟩) hlw).trans c5r; go_simp; try with_reducible rfl)
          try simp only [Act.put, List.setIfInBounds_toArray, List.set_cons_zero, List.set_cons_succ]
          refine wpAnyH_take (i := 5) (oi := { dst := some 33, op := Op.fieldAddr 28 (Operand.tmp 1) 5, type := 0, pos := "ref.go:111", after := #[], guard := none }) (v := .pointer (some ⟨g, 5, none⟩)) rfl (by kernel_rfl) (by kernel_rfl) (by kernel_rfl) (fun _ _ _ h => h) (Or.inl ⟨by rfl, ?hy1_5⟩) (by assumption) ?rest1_5
          case hy1_5 => (intro w hSw; (try dsimp only at hSw); go_simp; try with_reducible rfl)
          try simp only [Act.put, List.setIfInBounds_toArray, List.set_cons_zero, List.set_cons_succ]
          refine wpAnyH_take (i := 6) (oi := { dst := some 34, op := Op.fieldAddr 26 (Operand.tmp 33) 1, type := 0, pos := "ref.go:111", after := #[{ on := 5, ground := Ground.data }], guard := none }) (v := .pointer (some ⟨g, 6, none⟩)) rfl (by kernel_rfl) (by kernel_rfl) (by kernel_rfl) (fun _ _ _ h => h) (Or.inl ⟨by rfl, ?hy1_6⟩) (by assumption) ?rest1_6
          case hy1_6 => (intro w hSw; (try dsimp only at hSw); go_simp; try with_reducible rfl)
          try simp only [Act.put, List.setIfInBounds_toArray, List.set_cons_zero, List.set_cons_succ]
          refine wpAnyH_take (i := 7) (oi := { dst := some 35, op := Op.load 3 (Operand.tmp 34), type := 3, pos := "ref.go:111", after := #[{ on := 6, ground := Ground.data }], guard := none }) (v := .int .i64 S) rfl (by kernel_rfl) (by kernel_rfl) (by kernel_rfl) (fun _ _ _ h => h) (Or.inl ⟨by rfl, ?hy1_7⟩) (by assumption) ?rest1_7
          case hy1_7 => (intro w hSw; have hq := (Below.cell hSw (p := ⟨g, 6, none⟩) hlw).trans c6r; go_simp; try with_reducible rfl)
          try simp only [Act.put, List.setIfInBounds_toArray, List.set_cons_zero, List.set_cons_succ]
          refine wpAnyH_ready (rs := [4]) (by kernel_rfl) (by simp) ?_
          refine AllReadyH.cons (o := { dst := some 32, op := Op.call { callee := Callee.value (Operand.func 44), args := #[Operand.tmp 28, Operand.tmp 31], argTypes := #[24, 3] }, type := 24, pos := "ref.go:111", after := #[{ on := 0, ground := Ground.data }, { on := 3, ground := Ground.data }], guard := none }) rfl (fun K hK => ?_) AllReadyH.nil
          go_simp
          refine (HNUM.out).mono ?_
          rintro e w5 ⟨A6, N6, c6, rfl, ho6, hb6⟩
          have hs5 : Below wr.heap.size wr w5 := HS.out.trans (hb6.mono HS.out.size)
          have hN6 : N6 ≤ 45 := by have h1 := ho6.len; have h2 := HP.out.2.1.len; rw [bv_len] at h1 h2; rw [List.length_append] at h1; omega
          refine hK.out _ _ hs5 (fun _ => ?_)
          clear hK K
          try simp only [Act.put, List.setIfInBounds_toArray, List.set_cons_zero, List.set_cons_succ]
          refine wpAnyH_ready (rs := [8]) (by kernel_rfl) (by simp) ?_
          refine AllReadyH.cons (o := { dst := some 36, op := Op.call { callee := Callee.value (Operand.func 44), args := #[Operand.tmp 32, Operand.tmp 35], argTypes := #[24, 3] }, type := 24, pos := "ref.go:111", after := #[{ on := 4, ground := Ground.data }, { on := 7, ground := Ground.data }, { on := 4, ground := Ground.chain }], guard := none }) rfl (fun K hK => ?_) AllReadyH.nil
          go_simp
          refine (oct.refNumber_any A6 N6 c6 _ S _ w5 ho6.rd (Nat.le_refl _) (by omega) hS.1 hS.2).mono ?_
          rintro e w6 ⟨A7, N7, c7, rfl, ho7, hb7⟩
          refine hK.out _ _ (hs5.trans (hb7.mono hs5.size)) (fun _ => ?_)
          clear hK K
          try simp only [Act.put, List.setIfInBounds_toArray, List.set_cons_zero, List.set_cons_succ]
          refine wpAnyH_take (i := 9) (oi := { dst := some 4, op := Op.assign (Operand.tmp 36), type := 24, pos := "ref.go:111", after := #[{ on := 8, ground := Ground.data }, { on := 8, ground := Ground.chain }, { on := 0, ground := Ground.phase }, { on := 1, ground := Ground.phase }, { on := 2, ground := Ground.phase }, { on := 3, ground := Ground.phase }, { on := 4, ground := Ground.phase }, { on := 5, ground := Ground.phase }, { on := 6, ground := Ground.phase }, { on := 7, ground := Ground.phase }, { on := 8, ground := Ground.phase }], guard := none }) (v := .slice A7 N7 c7) rfl (by kernel_rfl) (by kernel_rfl) (by kernel_rfl) (fun _ _ _ h => h) (Or.inl ⟨by rfl, ?hy1_9⟩) (by assumption) ?rest1_9
          case hy1_9 => (intro w hSw; (try dsimp only at hSw); go_simp; try with_reducible rfl)
          try simp only [Act.put, List.setIfInBounds_toArray, List.set_cons_zero, List.set_cons_succ]
          refine wpAnyH_done (by kernel_rfl) ?_ _
          have hwr6 : Below wr.heap.size wr w6 := hs5.trans (hb7.mono hs5.size)
          have hN7 : N7 ≤ 54 := by
            have h1 := ho7.len
            have h2 := ho6.len
            rw [bv_len] at h1 h2
            rw [List.length_append] at h1
            omega
          have hlw6 : g < w6.heap.size := Nat.lt_of_lt_of_le hlw hwr6.size
          have hr6 := dg.range_below HP.out.2.2.2.1 hwr6 hlw
          have H6 := Lib.hid (And.intro ((ho7.base (Nat.succ_le_of_lt (Nat.lt_of_lt_of_le hlw hs5.size))) : Ow w6 (g + 1) 5 A7 N7 c7 _) (And.intro hwr6 hr6))
          clear ho6 ho7 hb6 hb7 hwr6 hr6 c5r c6r hs5 HNUM
          go_wp2_with fail
          go_loopw [4, 37] (fun s i wr => ∃ (j : Nat) (A8 : Option Addr) (N8 c8 : Nat), s = .slice A8 N8 c8 ∧ i = .int .i64 j ∧ j ≤ 32 ∧ N8 ≤ 54 + j ∧ Hid (Ow wr (g + 1) 5 A8 N8 c8 (bv (pre ++ numB K.toNat ++ numB S.toNat ++ d.take j)) ∧ Below (g + 1) w6 wr)) (fun _ i _ => 32 - (intOf i).toNat)
          case atStart => exact ⟨0, A7, N7, c7, rfl, rfl, by omega, by omega, Lib.hid ⟨by have := H6.out.1; simpa using this, Below.refl _ _⟩⟩
          case round =>
            obtain ⟨j, A8, N8, c8, rfl, rfl, hj, hN8, HQ⟩ := hrel
            by_cases hjl : j < 32
            · have hji : (j : Int) < 32 := by omega
              have hjd : j < d.length := by omega
              have hlq : g < wr.heap.size := Nat.lt_of_lt_of_le hlw6 HQ.out.2.size
              have hrq := dg.range_below H6.out.2.2 HQ.out.2 (Nat.lt_succ_self g)
              have hcd : wr.cell? ⟨g, 7 + j, none⟩ = some (.int .u8 ((d[j]).toNat : Int)) := by
                have := hrq (2 + j) (.int .u8 ((d[j]).toNat : Int)) (by
                  unfold recL
                  have hj2 : j < (bv d).length := by rw [bv_len]; exact hjd
                  rw [show 2 + j = j + 1 + 1 by omega, List.getElem?_cons_succ, List.getElem?_cons_succ, List.getElem?_append_left hj2]
                  simp [bv, hjd])
                rwa [show 5 + (2 + j) = 7 + j by omega] at this
              have hst : pre ++ numB K.toNat ++ numB S.toNat ++ d.take (j + 1) = pre ++ numB K.toNat ++ numB S.toNat ++ d.take j ++ [d[j]] := by
                rw [List.take_succ_eq_append_getElem hjd]; simp
              obtain ⟨z, hz⟩ : ∃ z, d[j] = z := ⟨_, rfl⟩
              rw [hz] at hcd hst
              have HST := Lib.hid hst
              have hoQ := HQ.out.1
              clear hst hz hrq
              go_wp2_with (at_builtin; refine wp_app oct.u8ty rfl (.tmp 40) (.tmp 46) rfl rfl rfl (hoQ.alloc _) (Rd.one _ _ _) (one1 rfl) (by omega) (by omega) (by simp; omega) ?_; intro A9 N9 c9 w9 ho9 hN9 hb9 hg9)
              rw [← bv_snoc8, ← HST.out] at ho9
              have hbq : Below (g + 1) w6 w9 := HQ.out.2.trans (((Below.refl _ _).alloc (Nat.succ_le_of_lt hlq) _).trans hb9)
              have HQ9 := Lib.hid (And.intro ho9 hbq)
              clear ho9 hb9 hg9 hbq
              go_roundw
              case rel => exact ⟨j + 1, A9, N9, c9, rfl, by go_num, by omega, by omega, HQ9⟩
              case measure => simp [intOf]; omega
            · obtain rfl : j = 32 := by omega
              have hlq : g < wr.heap.size := Nat.lt_of_lt_of_le hlw6 HQ.out.2.size
              have hgq : Below g w wr := HP.out.2.2.1.trans ((H6.out.2.1.mono (Nat.le_of_lt hlw)).trans (HQ.out.2.mono (Nat.le_succ g)))
              have hrq := dg.range_below H6.out.2.2 HQ.out.2 (Nat.lt_succ_self g)
              have c39 : wr.cell? ⟨g, 39, none⟩ = some (.slice A n c) := hrq 34 _ (recL_34 hd)
              have hoQ := HQ.out.1
              rw [List.take_of_length_le (Nat.le_of_eq hd)] at hoQ
              have HT := Lib.hid (oct.refText_any A8 A N8 c8 n c wr.heap.size _ x wr hoQ.rd ((HH.out.1.below (B' := w.heap.size) (by rw [hg]; exact hgq) hB).more (Nat.le_trans hB (by rw [hg]; exact Nat.le_of_lt hlq))) (Nat.le_refl _) (by omega) (by omega))
              have H7 := Lib.hid (And.intro hgq hlq)
              clear hoQ hgq hrq
              go_wp2_with (go_at_call 45; refine (HT.out).mono ?_; rintro e w8 ⟨A9, N9, c9, rfl, ho9, hb9⟩)
              go_ret2
              refine ⟨_, _, _, rfl, ?_, H7.out.1.trans (hb9.mono (Nat.le_of_lt H7.out.2))⟩
              rw [HP.out.1]
              have h9 := ho9.base (Nat.le_of_lt H7.out.2)
              rw [show recB K S d x = numB K.toNat ++ numB S.toNat ++ d ++ (numB n ++ x) by unfold recB; rw [HH.out.2.1]]
              simpa using h9
        · have hbytes := HPB.out
          rw [if_neg h2, List.append_nil] at hbytes
          have hN2 : (N == 2) = false := beq_eq_false_iff_ne.2 h2
          have HP := Lib.hid (And.intro hbytes (And.intro hoR hgw))
          clear hbytes hoR hgw hrr
          go_wp2_with fail
          go_ret2
          exact ⟨_, _, _, rfl, by rw [HP.out.1]; exact HP.out.2.1, HP.out.2.2⟩
  · rw [if_neg (by omega)]
    rw [hf1] at hfit
    obtain ⟨g, hg⟩ : ∃ g, w.heap.size = g := ⟨_, rfl⟩
    rw [hg] at hr hb hlt c0 ⊢
    go_enter Tryd.func25, Tryd.ntmps25
    go_upto_region 1 with fail
    try rw [hW]
    try rw [hg]
    go_wp2_with (first
      | (refine wpList_load_mid_g rfl 28 (.tmp 1) rfl g 0 rfl NL _ hr Tryd.underlying28 rfl hinf ?_; rw [hNA])
      | (go_at_call 16; refine (hfit _).mono ?_; rintro e w2 ⟨rfl, hb2⟩)
      | fail)
    go_ret2
    exact ⟨none, 0, 0, rfl, Ow.nil _ _ _, hb.trans (hb2.mono (Nat.le_of_lt hlt))⟩
end Go.Proofs.YtbcgnacfhpahkaaDoor.rc
namespace Go.Proofs.YtbcgnacfhpahkaaDoor.rc
set_option maxRecDepth 20000
open Go.RowKit Mem OM LM DM
set_option linter.unusedVariables false
theorem refFits_any (N F P D I K S : Int) (d : List UInt8) (hd : d.length = 32) (A : Option Addr) (n c : Nat) (w : World) : Calls Tryd.prog 16 #[.agg (noteL N F P D I K S d A n c).toArray] w fun e w' => e = .returned (.int .i64 (fitE N F P D I K S d n : Nat)) ∧ Below w.heap.size w w' := by
  by_cases k1 : N = 1
  · exact refFits_1 N F P D I K S d hd A n c w k1
  by_cases k2 : N = 2
  · exact refFits_2 N F P D I K S d hd A n c w k2
  by_cases k3 : N = 3
  · exact refFits_3 N F P D I K S d hd A n c w k3
  by_cases k4 : N = 4
  · exact refFits_4 N F P D I K S d hd A n c w k4
  by_cases k5 : N = 5
  · exact refFits_5 N F P D I K S d hd A n c w k5
  by_cases k6 : N = 6
  · exact refFits_6 N F P D I K S d hd A n c w k6
  exact refFits_0 N F P D I K S d hd A n c w ⟨k1, k2, k3, k4, k5, k6⟩
theorem refPut_any (N F P D I K S : Int) (d : List UInt8) (hd : d.length = 32) (A : Option Addr) (n c B : Nat) (x : List UInt8) (w : World) (h : Rd w B A n (bv x)) (hB : B ≤ w.heap.size) (hn : n ≤ 1048576)
    (hN : -9223372036854775808 ≤ N ∧ N ≤ 9223372036854775807) (hK : -9223372036854775808 ≤ K ∧ K ≤ 9223372036854775807) (hS : -9223372036854775808 ≤ S ∧ S ≤ 9223372036854775807) (hV : ∀ x ∈ numL N F P D I, -9223372036854775808 ≤ x ∧ x ≤ 9223372036854775807) :
    Calls Tryd.prog 25 #[.agg (noteL N F P D I K S d A n c).toArray] w (MadeE w (putR N F P D I K S d x)) :=
  refPut_of N F P D I K S d hd A n c B x w h hB hn hN hK hS hV (fun y => refFits_any N F P D I K S d hd A n c y)
end Go.Proofs.YtbcgnacfhpahkaaDoor.rc
namespace Go.Proofs.YtbcgnacfhpahkaaDoor.rc
set_option maxRecDepth 20000
open Go.ChangeShapes Go.WideShapes Go.ChangeAt Go.RowKit Mem Go.Deep OM
set_option linter.unusedVariables false
theorem rd_bytes1 {z : Int} (h : (Lit.int .u8 z).wf = true) : ∃ b : UInt8, z = (b.toNat : Int) := by
  have : 0 ≤ z ∧ z ≤ 255 := by simpa [Lit.wf, IntKind.min, IntKind.max, IntKind.signed, IntKind.bits] using h
  refine ⟨UInt8.ofNat z.toNat, ?_⟩
  rw [UInt8.toNat_ofNat']
  omega
theorem trod_sum {H : Type} {enc : TypeId × Value → H} {W : World} {m : Nat} {cs : List Value} {x : DataW H × List MemPlace}
    (h : DataW.trod enc Tryd.prog W 0 (fun _ => true) true m 23 cs = some x) : ∃ d : List UInt8, d.length = 32 ∧ cs = bv d := by
  have hc : Tryd.prog.cellsOf 23 = 32 := by kernel_rfl
  have h1 : Tryd.prog.cellsOf 5 = 1 := by kernel_rfl
  obtain ⟨xs, k, _, _, hl, hx, hg⟩ := DataW.trod_array Tryd.underlying23 h
  rw [hc] at hl
  rw [h1] at hg
  have each : ∀ i : Nat, ∃ b : UInt8, i < 32 → cs[i]? = some (.int .u8 (b.toNat : Int)) := fun i => by
    by_cases hi : i < 32
    · have hgi := hg i hi
      rw [List.getElem?_eq_getElem (by omega)] at hgi
      obtain ⟨z, e, _, wf⟩ := DataW.trod_int Tryd.underlying5 hgi
      obtain ⟨b, rfl⟩ := rd_bytes1 wf
      refine ⟨b, fun _ => ?_⟩
      have := congrArg (fun l : List Value => l[0]?) e
      simpa [List.getElem?_take, List.getElem?_drop] using this
    · exact ⟨0, fun h => absurd h hi⟩
  refine ⟨(List.range 32).map fun i => (each i).choose, by simp, ?_⟩
  refine List.ext_getElem? fun i => ?_
  by_cases hi : i < 32
  · rw [(each i).choose_spec hi]
    simp [bv, hi]
  · rw [List.getElem?_eq_none (by omega), List.getElem?_eq_none (by simp [bv]; omega)]
theorem split4 {cs : List Value} (h : cs.length = 35) : cs = (cs.drop 0).take 1 ++ ((cs.drop 1).take 1 ++ ((cs.drop 2).take 32 ++ (cs.drop 34).take 1)) := by
  match cs, h with
  | a :: b :: r, h =>
    have hr : r.length = 33 := by simpa using h
    simp only [List.drop_zero, List.take_succ_cons, List.take_zero, List.drop_succ_cons, List.cons_append, List.nil_append]
    rw [show (r.drop 32).take 1 = r.drop 32 from List.take_of_length_le (by simp; omega), List.take_append_drop]
theorem trod_rec {H : Type} {enc : TypeId × Value → H} {W : World} {fuel : Nat} {cs : List Value} {x : DataW H × List MemPlace}
    (h : DataW.trod enc Tryd.prog W 0 (fun _ => true) true fuel 26 cs = some x) :
    ∃ (K S : Int) (d l : List UInt8) (A : Option Addr) (n c : Nat), cs = recL K S d A n c ∧ d.length = 32 ∧ Rd W W.heap.size A n (bv l) ∧ n ≤ c ∧ n ≤ 9223372036854775807 ∧ (-9223372036854775808 ≤ K ∧ K ≤ 9223372036854775807) ∧ (-9223372036854775808 ≤ S ∧ S ≤ 9223372036854775807) := by
  have hc : Tryd.prog.cellsOf 26 = 35 := by kernel_rfl
  have hi : Tryd.prog.cellsOf 3 = 1 := by kernel_rfl
  have hu : Tryd.prog.cellsOf 23 = 32 := by kernel_rfl
  have hs : Tryd.prog.cellsOf 24 = 1 := by kernel_rfl
  obtain ⟨xs, m, _, hx, hl, hlen, hg⟩ := DataW.trod_struct Tryd.underlying26 h
  rw [hc] at hl
  have h35 := split4 hl
  match xs, hlen with
  | [y0, y1, y2, y3], _ =>
    have u0 : DataW.trod enc Tryd.prog W 0 (fun _ => true) true m 3 ((cs.drop 0).take (Tryd.prog.cellsOf 3)) = some y0 := hg 0 _ rfl
    have u1 : DataW.trod enc Tryd.prog W 0 (fun _ => true) true m 3 ((cs.drop 1).take (Tryd.prog.cellsOf 3)) = some y1 := hg 1 _ rfl
    have u2 : DataW.trod enc Tryd.prog W 0 (fun _ => true) true m 23 ((cs.drop 2).take (Tryd.prog.cellsOf 23)) = some y2 := hg 2 _ rfl
    have u3 : DataW.trod enc Tryd.prog W 0 (fun _ => true) true m 24 ((cs.drop 34).take (Tryd.prog.cellsOf 24)) = some y3 := hg 3 _ rfl
    clear hg hx h
    rw [hi] at u0 u1
    rw [hu] at u2
    rw [hs] at u3
    obtain ⟨K, e0, _, w0⟩ := DataW.trod_int Tryd.underlying3 u0
    obtain ⟨S, e1, _, w1⟩ := DataW.trod_int Tryd.underlying3 u1
    obtain ⟨d, hd, e2⟩ := trod_sum u2
    rw [e0, e1, e2] at h35
    have g0 := int_wf w0
    have g1 := int_wf w1
    rcases open_ints Tryd.underlying24 Tryd.underlying5 (by kernel_rfl) u3 with ⟨hcs, _⟩ | ⟨x, l, c, zs, hcs, _, hl2, hm, hz, _, hcell, hwz⟩
    · rw [hcs] at h35
      exact ⟨K, S, d, [], none, 0, 0, h35, hd, Rd.nil _ _ _, Nat.le_refl _, by omega, g0, g1⟩
    · rw [hcs] at h35
      unfold maxLen at hm
      obtain ⟨l2, hl3⟩ := rd_bytes hl2 (by simpa using hz) hcell hwz
      exact ⟨K, S, d, l2, _, _, _, h35, hd, hl3, hl2, by omega, g0, g1⟩
theorem open_rec {H : Type} {enc : TypeId × Value → H} {W : World} {r : Reach} {b0 : Nat} {v : Value} {d : DataW H} {ps : List MemPlace}
    (hval : Value.okWide Tryd.prog W r b0 26 v) (hd : DataW.Trod enc Tryd.prog W 0 (fun _ => true) true 26 v d ps) :
    ∃ (K S : Int) (d l : List UInt8) (A : Option Addr) (n c : Nat), v = .agg (recL K S d A n c).toArray ∧ d.length = 32 ∧ Rd W W.heap.size A n (bv l) ∧ n ≤ c ∧ n ≤ 9223372036854775807 ∧ (-9223372036854775808 ≤ K ∧ K ≤ 9223372036854775807) ∧ (-9223372036854775808 ≤ S ∧ S ≤ 9223372036854775807) := by
  obtain ⟨cs, rfl, hsz⟩ := okWide_struct Tryd.underlying26 hval
  obtain ⟨fuel, hf⟩ := hd
  obtain ⟨K, S, d, l, A, n, c, e, r⟩ := trod_rec hf
  refine ⟨K, S, d, l, A, n, c, ?_, r⟩
  rw [← e]
  simp [Value.cells]
theorem open_note {H : Type} {enc : TypeId × Value → H} {W : World} {r : Reach} {b0 : Nat} {v : Value} {d : DataW H} {ps : List MemPlace}
    (hval : Value.okWide Tryd.prog W r b0 28 v) (hd : DataW.Trod enc Tryd.prog W 0 (fun _ => true) true 28 v d ps) :
    ∃ (N F P D I K S : Int) (d l : List UInt8) (A : Option Addr) (n c : Nat), v = .agg (noteL N F P D I K S d A n c).toArray ∧ d.length = 32 ∧ Rd W W.heap.size A n (bv l) ∧ n ≤ c ∧ n ≤ 9223372036854775807 ∧ (-9223372036854775808 ≤ K ∧ K ≤ 9223372036854775807) ∧ (-9223372036854775808 ≤ S ∧ S ≤ 9223372036854775807) ∧ (-9223372036854775808 ≤ N ∧ N ≤ 9223372036854775807) ∧
      (-9223372036854775808 ≤ F ∧ F ≤ 9223372036854775807) ∧ (-9223372036854775808 ≤ P ∧ P ≤ 9223372036854775807) ∧ (-9223372036854775808 ≤ D ∧ D ≤ 9223372036854775807) ∧ (-9223372036854775808 ≤ I ∧ I ≤ 9223372036854775807) := by
  have hc : Tryd.prog.cellsOf 28 = 40 := by kernel_rfl
  have hi : Tryd.prog.cellsOf 3 = 1 := by kernel_rfl
  have hu : Tryd.prog.cellsOf 26 = 35 := by kernel_rfl
  obtain ⟨cs, rfl, hsz⟩ := okWide_struct Tryd.underlying28 hval
  obtain ⟨fuel, hf⟩ := hd
  obtain ⟨xs, m, _, hx, hl, hlen, hg⟩ := DataW.trod_struct Tryd.underlying28 hf
  rw [hc] at hl
  obtain ⟨cs⟩ := cs
  simp only [Value.cells] at hl hg
  match xs, hlen with
  | [y0, y1, y2, y3, y4, y5], _ =>
    have u0 : DataW.trod enc Tryd.prog W 0 (fun _ => true) true m 3 ((cs.drop 0).take (Tryd.prog.cellsOf 3)) = some y0 := hg 0 _ rfl
    have u1 : DataW.trod enc Tryd.prog W 0 (fun _ => true) true m 3 ((cs.drop 1).take (Tryd.prog.cellsOf 3)) = some y1 := hg 1 _ rfl
    have u2 : DataW.trod enc Tryd.prog W 0 (fun _ => true) true m 3 ((cs.drop 2).take (Tryd.prog.cellsOf 3)) = some y2 := hg 2 _ rfl
    have u3 : DataW.trod enc Tryd.prog W 0 (fun _ => true) true m 3 ((cs.drop 3).take (Tryd.prog.cellsOf 3)) = some y3 := hg 3 _ rfl
    have u4 : DataW.trod enc Tryd.prog W 0 (fun _ => true) true m 3 ((cs.drop 4).take (Tryd.prog.cellsOf 3)) = some y4 := hg 4 _ rfl
    have u5 : DataW.trod enc Tryd.prog W 0 (fun _ => true) true m 26 ((cs.drop 5).take (Tryd.prog.cellsOf 26)) = some y5 := hg 5 _ rfl
    clear hg hx hf hval hsz
    match cs, hl with
    | c0 :: c1 :: c2 :: c3 :: c4 :: r, hl =>
      have hr : r.length = 35 := by simpa using hl
      rw [hi] at u0 u1 u2 u3 u4
      rw [hu] at u5
      simp only [List.drop_zero, List.drop_succ_cons, List.take_succ_cons, List.take_zero] at u0 u1 u2 u3 u4 u5
      rw [List.take_of_length_le (by omega)] at u5
      obtain ⟨x0, e0, _, w0⟩ := DataW.trod_int Tryd.underlying3 u0
      obtain ⟨x1, e1, _, w1⟩ := DataW.trod_int Tryd.underlying3 u1
      obtain ⟨x2, e2, _, w2⟩ := DataW.trod_int Tryd.underlying3 u2
      obtain ⟨x3, e3, _, w3⟩ := DataW.trod_int Tryd.underlying3 u3
      obtain ⟨x4, e4, _, w4⟩ := DataW.trod_int Tryd.underlying3 u4
      simp at e0 e1 e2 e3 e4
      subst e0 e1 e2 e3 e4
      obtain ⟨K, S, d, l, A, n, c, rfl, h1, h2, h3, h4, h5, h6⟩ := trod_rec u5
      exact ⟨x0, x1, x2, x3, x4, K, S, d, l, A, n, c, rfl, h1, h2, h3, h4, h5, h6, int_wf w0, int_wf w1, int_wf w2, int_wf w3, int_wf w4⟩
end Go.Proofs.YtbcgnacfhpahkaaDoor.rc
