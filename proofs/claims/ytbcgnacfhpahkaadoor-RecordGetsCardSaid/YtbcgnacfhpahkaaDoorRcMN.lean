/- RcM, RcN in one. -/
import Derived.Test.YtbcgnacfhpahkaaDoorRcL
import Derived.Test.YtbcgnacfhpahkaaDoorRoB
import Derived.Lib.SlBytesConst
namespace Go.Proofs.YtbcgnacfhpahkaaDoor.rc
set_option maxRecDepth 20000
open Go.RowKit Mem OM LM DM
set_option linter.unusedVariables false
set_option linter.unusedSimpArgs false
attribute [local go_sem] Oper.semAt_some
/-- the bytes of a note's numbers -/
def numsV (l : List (Nat × Int)) (v : Nat → Int) : List UInt8 := l.flatMap fun x => numB (v x.1).toNat
theorem numsV_snoc (l : List (Nat × Int)) (x : Nat × Int) (v : Nat → Int) : numsV (l ++ [x]) v = numsV l v ++ numB (v x.1).toNat := by simp [numsV]
/-- a note's bytes -/
def recB (K S : Int) (d x : List UInt8) : List UInt8 := numB K.toNat ++ numB S.toNat ++ d ++ (numB x.length ++ x)
def putB (N F P D I K S : Int) (d x : List UInt8) : List UInt8 := numB N.toNat ++ numsV (flds N) (v0 F P D I) ++ (if N = 2 then recB K S d x else [])
def putR (N F P D I K S : Int) (d x : List UInt8) : List UInt8 × Nat := if fitE N F P D I K S d x.length = 0 then (putB N F P D I K S d x, 0) else ([], 100)
theorem fitE_two (N F P D I K S : Int) (d : List UInt8) (n : Nat) : fitE N F P D I K S d n = 0 ∨ fitE N F P D I K S d n = 100 := by
  unfold fitE; split
  · exact Or.inl rfl
  · exact Or.inr rfl
theorem numB_len9 (k : Nat) : (numB k).length ≤ 9 := numB_le k
theorem numsV_len (l : List (Nat × Int)) (v : Nat → Int) : (numsV l v).length ≤ 9 * l.length := by
  induction l with
  | nil => simp [numsV]
  | cons x l ih =>
    have := numB_le (v x.1).toNat
    simp only [numsV, List.flatMap_cons, List.length_append, List.length_cons] at ih ⊢
    omega
theorem range5 (w : World) (NL : List Value) (t : TypeId) {v : Value} {i : Nat} (h : NL[i]? = some v) : (w.alloc (.cells NL.toArray t)).cell? ⟨w.heap.size, i, none⟩ = some v := by
  have := dg.range_new w NL t i v h
  rwa [Nat.zero_add] at this
theorem cut_sum (g o : Nat) (w : World) : (Instr.sliceAt 23 (.pointer (some ⟨g, o, none⟩)) none none none).run Tryd.prog w = .ok (.slice (some ⟨g, o, none⟩) 32 32) w := by
  have ht : Tryd.prog.underlying 23 = some (.array (Tryd.prog.arrayLen 23) (Tryd.prog.elem 23)) := by kernel_rfl
  have hal : Tryd.prog.arrayLen 23 = 32 := by kernel_rfl
  rw [run_sliceAt_array_all w 23 ⟨g, o, none⟩ ht, hal, show Tryd.prog.elem 23 = 5 by kernel_rfl, dg.u8size w]
  simp [slicedAt, Addr.add]
theorem rd_sum {K S : Int} {d : List UInt8} {A : Option Addr} {n c : Nat} {w : World} {g : Nat} (hd : d.length = 32) (h : w.rangeAt g 5 (recL K S d A n c)) (hg : g < w.heap.size) : Rd w w.heap.size (some ⟨g, 7, none⟩) 32 (bv d) := by
  refine ⟨by rw [bv_len, hd], fun _ => ⟨g, 7, rfl, hg, fun i hi => ?_⟩⟩
  have hj : i < (bv d).length := by rw [bv_len, hd]; exact hi
  have := h (2 + i) (bv d)[i] (by
    unfold recL
    rw [show 2 + i = i + 1 + 1 by omega, List.getElem?_cons_succ, List.getElem?_cons_succ, List.getElem?_append_left hj]
    exact List.getElem?_eq_getElem hj)
  rw [List.getElem?_eq_getElem hj, show 7 + i = 5 + (2 + i) by omega]
  exact this
set_option maxHeartbeats 4000000 in
theorem put_any (N F P D I K S : Int) (d : List UInt8) (hd : d.length = 32) (A : Option Addr) (n c B : Nat) (x : List UInt8) (w : World) (h : Rd w B A n (bv x)) (hB : B ≤ w.heap.size) (hn : n ≤ 1048576) (hc : n ≤ c)
    (hN : -9223372036854775808 ≤ N ∧ N ≤ 9223372036854775807) (hK : -9223372036854775808 ≤ K ∧ K ≤ 9223372036854775807) (hS : -9223372036854775808 ≤ S ∧ S ≤ 9223372036854775807) (hV : ∀ k, -9223372036854775808 ≤ v0 F P D I k ∧ v0 F P D I k ≤ 9223372036854775807) :
    Calls Tryd.prog 24 #[.agg (noteL N F P D I K S d A n c).toArray] w (MadeE w (putR N F P D I K S d x)) := by
  have hxl : x.length = n := by rw [← h.len, bv_len]
  have hr := dg.range_new w (noteL N F P D I K S d A n c) 28
  have ht := dg.there_new w (noteL N F P D I K S d A n c) 28
  rw [noteL_len hd] at ht
  have hb : Below w.heap.size w (w.alloc (.cells (noteL N F P D I K S d A n c).toArray 28)) := (Below.refl _ _).alloc (Nat.le_refl _) _
  have hlt : w.heap.size < (w.alloc (.cells (noteL N F P D I K S d A n c).toArray 28)).heap.size := by simp
  have hfit := fun y => fits_any N F P D I K S d hd A n c y
  have hNL := noteL_len (N := N) (F := F) (P := P) (D := D) (I := I) (K := K) (S := S) (A := A) (n := n) (c := c) hd
  have hinf : (Tryd.prog.info? 28).map (·.size) = some (noteL N F P D I K S d A n c).length := by rw [hNL]; kernel_rfl
  have c0 : (w.alloc (.cells (noteL N F P D I K S d A n c).toArray 28)).cell? ⟨w.heap.size, 0, none⟩ = some (.int .i64 N) := hr 0 _ rfl
  have hnum := note_nums hr (dg.there_sub ht 0 5 (by omega))
  have hrec := note_rec hr
  obtain ⟨NL, hNLe⟩ : ∃ NL, noteL N F P D I K S d A n c = NL := ⟨_, rfl⟩
  rw [hNLe] at hr ht hb hlt hinf c0 hnum hrec ⊢
  simp only [hNLe] at hfit
  obtain ⟨NA, hNA⟩ : ∃ NA, NL.toArray = NA := ⟨_, rfl⟩
  rw [hNA] at hr ht hb hlt c0 hnum hrec ⊢
  simp only [hNA] at hfit
  obtain ⟨W, hW⟩ : ∃ W, w.alloc (.cells NA 28) = W := ⟨_, rfl⟩
  rw [hW] at hr ht hb hlt c0 hnum hrec
  have hok := flds_ok N
  have h3 := flds_three N
  have HH := Lib.hid (And.intro h (And.intro hxl hrec))
  have HV := Lib.hid hV
  clear h hxl hrec hV
  unfold MadeE putR
  rw [HH.out.2.1]
  rcases fitE_two N F P D I K S d n with hf0 | hf1
  · rw [if_pos hf0]
    rw [hf0] at hfit
    obtain ⟨g, hg⟩ : ∃ g, w.heap.size = g := ⟨_, rfl⟩
    rw [hg] at hr ht hb hlt c0 hnum ⊢
    go_enter Tryd.func24, Tryd.ntmps24
    go_upto_region 1 with fail
    try rw [hW]
    try rw [hg]
    go_upto_region 5 with (first
      | (refine wpList_load_mid_g rfl 28 (.tmp 1) rfl g 0 rfl NL _ hr Tryd.underlying28 rfl hinf ?_; rw [hNA])
      | (go_at_call 15; refine (hfit _).mono ?_; rintro e w2 ⟨rfl, hb2⟩; have c02 := (hb2.cell (p := ⟨g, 0, none⟩) hlt).trans c0)
      | (go_at_call 41; refine (oct.number_any none 0 0 0 N [] w2 (Rd.nil _ _ _) (Nat.zero_le _) (by omega) hN.1 hN.2).mono ?_; rintro e w3 ⟨A3, N3, c3, rfl, ho3, hb3⟩)
      | fail)
    have c03 := (hb3.cell (p := ⟨g, 0, none⟩) (Nat.lt_of_lt_of_le hlt hb2.size)).trans c02
    have hlt2 : g < w2.heap.size := Nat.lt_of_lt_of_le hlt hb2.size
    have hlt3 : g < w3.heap.size := Nat.lt_of_lt_of_le hlt (Nat.le_trans hb2.size hb3.size)
    have hb13 : Below W.heap.size W w3 := hb2.trans (hb3.mono hb2.size)
    have hnl3 : N3 ≤ 9 := by have := ho3.len; rw [bv_len, List.nil_append] at this; have := numB_le N.toNat; omega
    have hrec2 := HH.out.2.2
    rw [hg] at hrec2
    have hfl := fields_any g N w3 c03
    unfold FldPost at hfl
    have HF := Lib.hid hfl
    have H3 := Lib.hid (And.intro (hb.trans (hb13.mono (Nat.le_of_lt hlt))) (And.intro (hnum.below hb13 hlt) (And.intro (dg.range_below hrec2 hb13 hlt) (And.intro ho3 (And.intro hb13 hlt3)))))
    clear hfl ho3 hb3 hb13 hrec2 c0 c02 hr hfit hnum ht hb2
    obtain ⟨l, hl⟩ : ∃ l, flds N = l := ⟨_, rfl⟩
    rw [hl] at HF hok h3
    have HL := Lib.hid hl
    clear hl
    go_upto_region 6 with (go_at_call 33; refine (HF.out).mono ?_; rintro e w4 ⟨A4, m4, rfl, hq, hb4⟩)
    have hlt4 : g < w4.heap.size := Nat.lt_of_lt_of_le hlt3 hb4.size
    obtain ⟨b, hA4, hf4⟩ : ∃ b, (0 < l.length → A4 = some ⟨b, 0, none⟩ ∧ b < w4.heap.size) ∧ (0 < l.length → w4.rangeAt b 0 (fldL g l)) := by
      by_cases hl0 : 0 < l.length
      · obtain ⟨b, e1, _, e3, e4⟩ := hq hl0
        exact ⟨b, fun _ => ⟨e1, e3⟩, fun _ => e4⟩
      · exact ⟨0, fun h => absurd h hl0, fun h => absurd h hl0⟩
    have H4 := Lib.hid (And.intro (H3.out.1.trans (hb4.mono (Nat.le_of_lt hlt3))) (And.intro (H3.out.2.1.below hb4 hlt3) (And.intro (dg.range_below H3.out.2.2.1 hb4 hlt3) (And.intro ((H3.out.2.2.2.1.below hb4 (Nat.le_refl _)).base (Nat.le_of_lt hlt2) : Ow w4 g 5 A3 N3 c3 (bv ([] ++ numB N.toNat))) hf4))))
    have c04 := (hb4.cell (p := ⟨g, 0, none⟩) hlt3).trans c03
    clear hq H3 hf4 HF hb4 c03
    go_wp2_with fail
    go_loopw [5, 18] (fun s i wr => ∃ (k : Nat) (A5 : Option Addr) (N5 c5 : Nat), s = .slice A5 N5 c5 ∧ i = .int .i64 k ∧ k ≤ l.length ∧ N5 ≤ 9 + 9 * k ∧ Hid (Ow wr g 5 A5 N5 c5 (bv (numB N.toNat ++ numsV (l.take k) (v0 F P D I))) ∧ Below w4.heap.size w4 wr)) (fun _ i _ => l.length - (intOf i).toNat)
    case atStart => exact ⟨0, A3, N3, c3, rfl, rfl, by omega, by omega, Lib.hid ⟨by have := H4.out.2.2.2.1; simpa [numsV] using this, Below.refl _ _⟩⟩
    case round =>
      obtain ⟨k, A5, N5, c5, rfl, rfl, hk, hN5, HR⟩ := hrel
      by_cases hkl : k < l.length
      · have hki : (k : Int) < (l.length : Int) := by omega
        obtain ⟨rfl, hbw4⟩ := hA4 (by omega)
        have hx := fldL_at g l k hkl
        have hok2 := hok _ (List.getElem_mem hkl)
        have hst : numB N.toNat ++ numsV (l.take (k + 1)) (v0 F P D I) = numB N.toNat ++ numsV (l.take k) (v0 F P D I) ++ numB (v0 F P D I (l[k]).1).toNat := by
          rw [List.take_succ_eq_append_getElem hkl, numsV_snoc, List.append_assoc]
        obtain ⟨y, hxe⟩ : ∃ y, l[k] = y := ⟨_, rfl⟩
        rw [hxe] at hx hst hok2
        obtain ⟨j, m⟩ := y
        obtain ⟨hj1, hj4⟩ := hok2
        simp only at hx hj1 hj4 hst
        have hfw := dg.range_below (H4.out.2.2.2.2 (by omega)) HR.out.2 hbw4
        have hcp : wr.cell? ⟨b, k * 2, none⟩ = some (.pointer (some ⟨g, j, none⟩)) := by have := hfw _ _ hx.1; rwa [Nat.zero_add, Nat.mul_comm] at this
        have hcm : wr.cell? ⟨b, k * 2 + 1, none⟩ = some (.int .i64 m) := by have := hfw _ _ hx.2; rwa [Nat.zero_add, Nat.mul_comm] at this
        have hvj := ((H4.out.2.1.below HR.out.2 hlt4) j hj1 hj4).1
        have hvr := HV.out j
        have HST := Lib.hid hst
        clear hx hxe hst hfw
        obtain ⟨z, hz⟩ : ∃ z, v0 F P D I j = z := ⟨_, rfl⟩
        rw [hz] at hvj hvr
        have HZ := Lib.hid hz
        clear hz
        have hX0 := dg.range_new wr [.pointer (some ⟨g, j, none⟩), .int .i64 m] 59
        have x0 := hX0 0 _ rfl
        have x1 := hX0 1 _ rfl
        have hXb : Below wr.heap.size wr (wr.alloc (.cells #[.pointer (some ⟨g, j, none⟩), .int .i64 m] 59)) := (Below.refl _ _).alloc (Nat.le_refl _) _
        have hgw : g < wr.heap.size := Nat.lt_of_lt_of_le hlt4 HR.out.2.size
        have xz := (hXb.cell (p := ⟨g, j, none⟩) hgw).trans hvj
        simp only [Nat.zero_add] at x0 x1
        obtain ⟨X, hX⟩ : ∃ X, wr.alloc (.cells #[.pointer (some ⟨g, j, none⟩), .int .i64 m] 59) = X := ⟨_, rfl⟩
        rw [hX] at x0 x1 xz hXb
        have hoX := (HR.out.1.below hXb (Nat.le_refl _))
        have hnum := oct.number_any A5 N5 c5 _ z _ X hoX.rd (Nat.le_refl _) (by omega) hvr.1 hvr.2
        have HNUM := Lib.hid hnum
        clear hnum hoX
        go_upto_region 8 with fail
        obtain ⟨p5, hp5⟩ : ∃ p, wr.heap.size = p := ⟨_, rfl⟩
        rw [hp5] at x0 x1 ⊢
        clear hX
        go_wp2_with (go_at_call 41; refine (HNUM.out).mono ?_; rintro e w7 ⟨A7, N7, c7, rfl, ho7, hb7⟩)
        have hbX : Below w4.heap.size w4 w7 := (HR.out.2.trans (hXb.mono HR.out.2.size)).trans (hb7.mono (Nat.le_trans HR.out.2.size hXb.size))
        have ho8 := ho7.base (Nat.le_trans (Nat.le_of_lt hgw) hXb.size)
        rw [← HZ.out, ← HST.out] at ho8
        have hN7 : N7 ≤ 9 + 9 * (k + 1) := by
          have h1 := ho8.len
          rw [bv_len, List.length_append] at h1
          have h2 := numB_le N.toNat
          have h4 := numsV_len (l.take (k + 1)) (v0 F P D I)
          have h5 : (l.take (k + 1)).length ≤ k + 1 := by simp; omega
          omega
        go_roundw
        case rel => exact ⟨k + 1, A7, N7, c7, rfl, by go_num, by omega, by omega, Lib.hid ⟨ho8, hbX⟩⟩
        case measure => simp [intOf]; omega
      · obtain rfl : k = l.length := by omega
        have hkn : ¬ ((l.length : Nat) : Int) < (l.length : Int) := by omega
        have hlw : g < wr.heap.size := Nat.lt_of_lt_of_le hlt4 HR.out.2.size
        have hgw : Below g w wr := H4.out.1.trans (HR.out.2.mono (Nat.le_of_lt hlt4))
        have c0r := (HR.out.2.cell (p := ⟨g, 0, none⟩) hlt4).trans c04
        have hrr := dg.range_below H4.out.2.2.1 HR.out.2 hlt4
        have hbytes : putB N F P D I K S d x = numB N.toNat ++ numsV l (v0 F P D I) ++ (if N = 2 then recB K S d x else []) := by unfold putB; rw [HL.out]
        have hoR := HR.out.1
        rw [List.take_of_length_le (Nat.le_refl _)] at hoR
        by_cases h2 : N = 2
        · rw [if_pos h2] at hbytes
          have c5r : wr.cell? ⟨g, 5, none⟩ = some (.int .i64 K) := hrr 0 _ rfl
          have c6r : wr.cell? ⟨g, 6, none⟩ = some (.int .i64 S) := hrr 1 _ rfl
          have c39 : wr.cell? ⟨g, 39, none⟩ = some (.slice A n c) := hrr 34 _ (recL_34 hd)
          have hcs := fun y => cut_sum g 7 y
          have hrdA := (HH.out.1.below (by rw [← hg] at hgw; exact hgw) hB : Rd wr B A n (bv x))
          have HP := Lib.hid (And.intro hbytes (And.intro hoR (And.intro hgw (And.intro hrr hrdA))))
          obtain ⟨pre, hpre⟩ : ∃ pre, numB N.toNat ++ numsV l (v0 F P D I) = pre := ⟨_, rfl⟩
          rw [hpre] at HP hoR
          clear hbytes hgw hrr hrdA
          subst h2
          have hXb : Below wr.heap.size wr (wr.alloc (.cells #[.int .i64 K, .int .i64 S] 3)) := (Below.refl _ _).alloc (Nat.le_refl _) _
          have hnr : Rd (wr.alloc (.cells #[.int .i64 K, .int .i64 S] 3)) (wr.heap.size + 1) (some ⟨wr.heap.size, 0, none⟩) 2 (iv [K, S]) := dg.rd_alloc wr 3 [.int .i64 K, .int .i64 S] (0, 0)
          have hXs : (wr.alloc (.cells #[.int .i64 K, .int .i64 S] 3)).heap.size = wr.heap.size + 1 := by simp
          have hnums := oct.numbers_any A5 (some ⟨wr.heap.size, 0, none⟩) N5 c5 2 2 (wr.heap.size + 1) pre [K, S] _ ((hoR.rd.below hXb (Nat.le_refl _)).more (Nat.le_succ _)) hnr (by rw [hXs]; exact Nat.le_refl _) (by omega) (by omega) (by intro y hy; simp at hy; rcases hy with rfl | rfl; exact hK; exact hS)
          have HNUM := Lib.hid hnums
          have HX := Lib.hid (And.intro hXb hXs)
          have hrgx := hlw
          clear hnums hnr hXb hXs hoR
          go_upto_region 12 with (go_at_call 42; refine (HNUM.out).mono ?_; rintro e w6 ⟨A6, N6, c6, rfl, ho6, hb6⟩)
          have hwr6 : Below wr.heap.size wr w6 := HX.out.1.trans (hb6.mono (Nat.le_of_lt (by rw [HX.out.2]; exact Nat.lt_succ_self _)))
          have hl6 : N6 ≤ N5 + 18 := by
            have h1 := ho6.len
            have h2 := HP.out.2.1.len
            have h3 := numB_le K.toNat
            have h4 := numB_le S.toNat
            rw [bv_len] at h1 h2
            rw [show numsB [K, S] = numB K.toNat ++ numB S.toNat by simp [numsB]] at h1
            simp only [List.length_append] at h1
            omega
          have hsum := rd_sum hd (dg.range_below HP.out.2.2.2.1 hwr6 hlw) (Nat.lt_of_lt_of_le hlw hwr6.size)
          have c39b := (hwr6.cell (p := ⟨g, 39, none⟩) hlw).trans c39
          have H6 := Lib.hid (And.intro (ho6.base (by rw [HX.out.2]; omega) : Ow w6 (g + 1) 5 A6 N6 c6 _) (And.intro hwr6 hsum))
          have hlw6 : g < w6.heap.size := Nat.lt_of_lt_of_le hlw hwr6.size
          clear ho6 hwr6 hsum c5r c6r c39 hb6 HNUM HX
          go_upto_region 13 with (at_builtin; refine wp_app oct.u8ty rfl (.tmp 41) (.tmp 44) rfl rfl rfl H6.out.1 H6.out.2.2 (bv_one _) (by omega) (by omega) (by omega) ?_; intro A7 N7 c7 w7 ho7 hN7 hb7 hg7)
          have c39c := (hb7.cell (p := ⟨g, 39, none⟩) (Nat.lt_succ_self g)).trans c39b
          have hb07 : Below g w w7 := (HP.out.2.2.1.trans (H6.out.2.1.mono (Nat.le_of_lt hlw))).trans (hb7.mono (Nat.le_succ g))
          rw [← bv_app] at ho7
          have htx := oct.text_any A7 A N7 c7 n c w7.heap.size (pre ++ numsB [K, S] ++ d) x w7 ho7.rd ((HH.out.1.below (B' := w.heap.size) (by rw [hg]; exact hb07) hB).more (Nat.le_trans hB hb07.size)) (Nat.le_refl _) (by omega) (by omega)
          have HT := Lib.hid htx
          have H7 := Lib.hid (And.intro hb07 (Nat.lt_of_lt_of_le hlw6 hb7.size))
          clear htx ho7 hb07 hb7 hg7 c39b
          go_wp2_with (go_at_call 43; refine (HT.out).mono ?_; rintro e w8 ⟨A8, N8, c8, rfl, ho8, hb8⟩)
          go_ret2
          refine ⟨_, _, _, rfl, ?_, H7.out.1.trans (hb8.mono (Nat.le_of_lt H7.out.2))⟩
          rw [HP.out.1]
          have h9 := ho8.base (Nat.le_of_lt H7.out.2)
          rw [show recB K S d x = numsB [K, S] ++ d ++ (numB n ++ x) by unfold recB; rw [HH.out.2.1]; simp [numsB]]
          simpa using h9
        · rw [if_neg h2, List.append_nil] at hbytes
          have hN2 : (N == 2) = false := beq_eq_false_iff_ne.2 h2
          have HP := Lib.hid (And.intro hbytes (And.intro hoR hgw))
          clear hbytes hoR hgw hrr
          go_wp2_with fail
          go_ret2
          exact ⟨_, _, _, rfl, by rw [HP.out.1]; exact HP.out.2.1, HP.out.2.2⟩
  · rw [if_neg (by omega)]
    rw [hf1] at hfit
    obtain ⟨g, hg⟩ : ∃ g, w.heap.size = g := ⟨_, rfl⟩
    rw [hg] at hr ht hb hlt c0 hnum ⊢
    go_enter Tryd.func24, Tryd.ntmps24
    go_upto_region 1 with fail
    try rw [hW]
    try rw [hg]
    go_wp2_with (first
      | (refine wpList_load_mid_g rfl 28 (.tmp 1) rfl g 0 rfl NL _ hr Tryd.underlying28 rfl hinf ?_; rw [hNA])
      | (go_at_call 15; refine (hfit _).mono ?_; rintro e w2 ⟨rfl, hb2⟩)
      | fail)
    go_ret2
    exact ⟨none, 0, 0, rfl, Ow.nil _ _ _, hb.trans (hb2.mono (Nat.le_of_lt hlt))⟩
end Go.Proofs.YtbcgnacfhpahkaaDoor.rc
namespace Go.Proofs.YtbcgnacfhpahkaaDoor.rc
set_option maxRecDepth 20000
open Go.RowKit Go.Shelf Mem OM LM DM oct
set_option linter.unusedVariables false
set_option linter.unusedSimpArgs false
attribute [local go_sem] Oper.semAt_some
theorem rd_lit (w : World) (l : List UInt8) (n : Nat) (hn : l.length = n) (m1 m2 : Nat) (cs : Array Value) (hc : cs = (bv l).toArray) : Rd (w.alloc (.cells cs 5 (m1, m2))) (w.heap.size + 1) (some ⟨w.heap.size, 0, none⟩) n (bv l) := by
  subst hc
  refine ⟨by rw [bv_len, hn], fun _ => ⟨_, 0, rfl, by omega, fun i hi => ?_⟩⟩
  rw [Nat.zero_add, cell_of_row _ _ i (bv l).toArray 5 (m1, m2) (heap_alloc_new w _)]
  simp
theorem aw1 : mkK [97, 98, 99] = 2 ∧ mkD [97, 98, 99] = [97, 98, 99] := by decide +kernel
theorem openR_lit (S : Int) (x : List UInt8) (h1 : 1 ≤ x.length) (h2 : x.length ≤ 256) (hS : S = (x.length : Nat)) : openR 2 S (digest x) x = (x, 0) := by
  subst hS
  have hc : chk 2 (x.length : Nat) x.length = 0 := by
    unfold chk fitsR fitsS fitsD
    simp
    omega
  unfold openR
  rw [if_neg (by omega), if_neg (by omega)]
  rw [show carR 2 (x.length : Nat) x = (x, 0) by unfold carR; rw [if_pos rfl]]
  simp
theorem aw2 : putR 3 7 0 0 0 0 0 z32 [] = ([3, 7], 0) := by decide +kernel
theorem build_note7 (w : World) : (Instr.build 28 #[(0, .int .i64 3), (1, .int .i64 7)]).run Tryd.prog w = .ok (.agg (noteL 3 7 0 0 0 0 0 z32 none 0 0).toArray) w := by kernel_rfl
theorem chk0 : chk 0 0 0 = 100 := by decide
theorem v0_range {F P D I : Int} (hF : -9223372036854775808 ≤ F ∧ F ≤ 9223372036854775807) (hP : -9223372036854775808 ≤ P ∧ P ≤ 9223372036854775807) (hD : -9223372036854775808 ≤ D ∧ D ≤ 9223372036854775807) (hI : -9223372036854775808 ≤ I ∧ I ≤ 9223372036854775807) (k : Nat) :
    -9223372036854775808 ≤ v0 F P D I k ∧ v0 F P D I k ≤ 9223372036854775807 := by
  unfold v0
  split
  · exact hF
  · split
    · exact hP
    · split
      · exact hD
      · exact hI
/-- an answered record under a name of its own -/
def MadeV (w : World) (K S : Int) (d x : List UInt8) (er : Int) (e : Ending) (w' : World) : Prop := ∃ RA A n c, e = .returned (.tuple #[.agg RA, .int .i64 er]) ∧ Hid (RA = (recL K S d A n c).toArray) ∧ Ow w' w.heap.size 5 A n c (bv x) ∧ Below w.heap.size w w'
theorem MadeR.v {w : World} {K S : Int} {d x : List UInt8} {er : Int} {e : Ending} {w' : World} (h : MadeR w K S d x er e w') : MadeV w K S d x er e w' := by
  obtain ⟨A, n, c, rfl, h1, h2⟩ := h
  exact ⟨_, A, n, c, rfl, Lib.hid rfl, h1, h2⟩
theorem va_size {RA : Array Value} {K S : Int} {d : List UInt8} {A : Option Addr} {n c : Nat} (hd : d.length = 32) (h : Hid (RA = (recL K S d A n c).toArray)) : RA.size = 35 := by
  rw [h.out, List.size_toArray, recL_len hd]
theorem va_one {RA : Array Value} {K S : Int} {d : List UInt8} {A : Option Addr} {n c : Nat} (h : Hid (RA = (recL K S d A n c).toArray)) : RA.all (·.oneCell') = true := by
  rw [h.out]; exact all_oneCell_toArray rec_one
/-- a record that was put into a variable of its own -/
theorem rec_stored {K S : Int} {d : List UInt8} {A : Option Addr} {n c : Nat} (hd : d.length = 32) (w : World) :
    ((w.alloc (.cells recZ.toArray 26)).setCells w.heap.size 0 (recL K S d A n c)).rangeAt w.heap.size 0 (recL K S d A n c) ∧ ((w.alloc (.cells recZ.toArray 26)).setCells w.heap.size 0 (recL K S d A n c)).there w.heap.size 0 35 ∧
      Below w.heap.size w ((w.alloc (.cells recZ.toArray 26)).setCells w.heap.size 0 (recL K S d A n c)) ∧ w.heap.size < ((w.alloc (.cells recZ.toArray 26)).setCells w.heap.size 0 (recL K S d A n c)).heap.size := by
  have h0 := rec_zero_there w
  have hl := recL_len (K := K) (S := S) (A := A) (n := n) (c := c) hd
  have h1 : (w.alloc (.cells recZ.toArray 26)).there w.heap.size 0 (recL K S d A n c).length := by rw [hl]; exact h0
  refine ⟨World.rangeAt_setCells_same _ _ _ _ h1, dg.there_set h0 _ _ _ h1, ?_, ?_⟩
  · exact (dg.Keep1.sets w.heap.size (recL K S d A n c) 0 _).below ((Below.refl _ w).alloc (Nat.le_refl _) _) (by simp) (Nat.le_refl _)
  · rw [dg.setCells_size]; simp
set_option maxHeartbeats 4000000 in
theorem awake_any (w : World) (hT : dg.Tab w) :
    Calls Tryd.prog 12 #[] w fun e w' => e = .returned (.bool true) ∧ Below w.heap.size w w' := by
  have q1 : ((bs [97, 98, 99]).toList == [97, 98, 99]) = true := by rw [bs_toList]; decide
  have q2 : ((bs [3, 7]).toList == [3, 7]) = true := by rw [bs_toList]; decide
  have hd := digest_len [97, 98, 99]
  have hone : ∀ v ∈ recL 2 3 (digest [97, 98, 99]) none 0 0, v.oneCell' = true := rec_one
  have kc := fun (w : World) (C : Array Value) (n c : Nat) => Lib.run_convert_bytes_const (P := Tryd.prog) w 24 5 C n c Tryd.underlying24 Tryd.underlying5
  have hW0 : Below w.heap.size w (w.alloc (.cells #[.int .u8 97, .int .u8 98, .int .u8 99] 5 (3, 4))) := (Below.refl _ w).alloc (Nat.le_refl _) _
  have hmk := make_new (some ⟨w.heap.size, 0, none⟩) 3 3 (w.heap.size + 1) [97, 98, 99] _ (rd_lit w [97, 98, 99] 3 rfl 3 4 _ rfl) (by simp) (Nat.le_refl _) (hT.below hW0) (by decide)
  rw [aw1.1, aw1.2, show ((3 : Nat) : Int) = 3 from rfl] at hmk
  have HMK := Lib.hid (hmk.mono fun _ _ h => h.v)
  have HQ := Lib.hid (And.intro hW0 hT)
  obtain ⟨dg0, hdg⟩ : ∃ d, digest [97, 98, 99] = d := ⟨_, rfl⟩
  rw [hdg] at HMK hd hone
  have HD := Lib.hid hdg
  clear hmk hdg hW0 hT hone
  go_enter Tryd.func12, Tryd.ntmps12
  unfold MadeV at HMK
  go_upto_region 2 with (first
    | (go_at_call 18; refine (HMK.out).mono ?_; rintro e w1 ⟨RA, A1, n1, c1, rfl, HRA, ho1, hb1⟩; have hsz := va_size hd HRA; have hon := va_one HRA)
    | (refine wpList_store_mid rfl 26 (.tmp 1) (.tmp 11) rfl w1.heap.size 0 RA rfl rfl (by rw [hsz]; exact rec_zero_there w1) (by rw [hsz]; exact info_rec) hon ?_)
    | fail)
  show Code.wp _ _ _ _ ((w1.alloc (.cells recZ.toArray 26)).setCells w1.heap.size 0 RA.toList)
  have hst := rec_stored (K := 2) (S := 3) (A := A1) (n := n1) (c := c1) hd w1
  have hRL : RA.toList = recL 2 3 dg0 A1 n1 c1 := by rw [HRA.out]
  rw [hRL]
  have hn1 : n1 = 3 := by have := ho1.len; simpa [bv_len] using this.symm
  obtain ⟨w2, hw2⟩ : ∃ z, (w1.alloc (.cells recZ.toArray 26)).setCells w1.heap.size 0 (recL 2 3 dg0 A1 n1 c1) = z := ⟨_, rfl⟩
  rw [hw2] at hst ⊢
  have hb01 : Below w.heap.size w w1 := HQ.out.1.trans (hb1.mono HQ.out.1.size)
  have hb02 : Below w.heap.size w w2 := hb01.trans (hst.2.2.1.mono hb01.size)
  have hrd := (ho1.rd.below hst.2.2.1 (Nat.le_refl _))
  have hop := open_any 2 3 dg0 hd A1 n1 c1 _ [97, 98, 99] w2 hrd (Nat.le_of_lt hst.2.2.2) (by omega) (by omega) (HQ.out.2.below hb02)
  rw [← HRA.out, show openR 2 3 dg0 [97, 98, 99] = ([97, 98, 99], 0) by rw [← HD.out]; exact openR_lit 3 [97, 98, 99] (by decide) (by decide) rfl] at hop
  unfold MadeE at hop
  have HOP := Lib.hid hop
  have hr2 := hst.1
  have hlt := hst.2.2.2
  have c20 : w2.cell? ⟨w1.heap.size, 0, none⟩ = some (.int .i64 2) := hr2 0 _ rfl
  have H2 := Lib.hid hb02
  have hrl : (recL 2 3 dg0 A1 n1 c1).toArray = RA := HRA.out.symm
  obtain ⟨RL, hRLn⟩ : ∃ RL, recL 2 3 dg0 A1 n1 c1 = RL := ⟨_, rfl⟩
  rw [hRLn] at hr2 hrl
  have hinfL : (Tryd.prog.info? 26).map (·.size) = some RL.length := by rw [← hRLn, recL_len hd]; exact info_rec
  have HRL := Lib.hid hrl
  clear hrl hst hRL hRLn hb01 hb02 hrd hop hw2
  have hbn := fun y => build_note7 y
  obtain ⟨NA, hNA⟩ : ∃ NA, (noteL 3 7 0 0 0 0 0 z32 none 0 0).toArray = NA := ⟨_, rfl⟩
  simp only [hNA] at hbn
  have hput := fun y => put_any 3 7 0 0 0 0 0 z32 z32_len none 0 0 0 [] y (Rd.nil _ _ _) (Nat.zero_le _) (by omega) (Nat.le_refl _) (by omega) (by omega) (by omega) (v0_range (by omega) (by omega) (by omega) (by omega))
  simp only [hNA, aw2] at hput
  unfold MadeE at hput
  have hbz := fun y => build_zero y
  have hck := fun y => check_any 0 0 z32 z32_len none 0 0 y
  rw [chk0, show recL 0 0 z32 none 0 0 = recZ from rfl] at hck
  obtain ⟨ZA, hZA⟩ : ∃ ZA, recZ.toArray = ZA := ⟨_, rfl⟩
  rw [hZA] at hck
  simp only [hZA] at hbz
  clear hZA hNA
  go_upto_region 4 with (first
    | (refine wpList_load_mid rfl 26 (.tmp 1) rfl w1.heap.size 0 rfl RL _ hr2 Tryd.underlying26 rfl hinfL ?_; rw [HRL.out])
    | (go_at_call 22; refine (HOP.out).mono ?_; rintro e w3 ⟨A3, n3, c3, rfl, ho3, hb3⟩)
    | (refine wp_build_g rfl _ _ rfl (.agg NA) (by simp only [List.map_toArray, List.map_nil, List.map_cons]; exact hbn _) ?_)
    | (go_at_call 24; refine (hput _).mono ?_; rintro e w4 ⟨A4, n4, c4, rfl, ho4, hb4⟩)
    | fail)
  have r3 := run_string Tryd.underlying24 Tryd.underlying5 Tryd.underlying9 (ho3.below hb4 (Nat.le_refl _)).rd c3
  have r4 := run_string Tryd.underlying24 Tryd.underlying5 Tryd.underlying9 ho4.rd c4
  have c40 := (hb4.cell (p := ⟨w1.heap.size, 0, none⟩) (Nat.lt_of_lt_of_le hlt hb3.size)).trans ((hb3.cell (p := ⟨w1.heap.size, 0, none⟩) hlt).trans c20)
  have H4 := Lib.hid ((H2.out.trans (hb3.mono H2.out.size)).trans (hb4.mono (Nat.le_trans H2.out.size hb3.size)))
  clear hr2 c20 ho3 ho4 hb3 hb4 HOP hput hbn
  go_wp2_with (first
    | (refine wp_build_g rfl _ _ rfl (.agg ZA) (by simp only [List.map_toArray, List.map_nil]; exact hbz _) ?_)
    | (go_at_call 13; refine (hck _).mono ?_; rintro e w5 ⟨rfl, hb5⟩)
    | fail)
  go_ret
  exact ⟨rfl, H4.out.trans (hb5.mono H4.out.size)⟩
end Go.Proofs.YtbcgnacfhpahkaaDoor.rc
