/- Contract of digest's words. -/
import Derived.Test.YtbcgnacfhpahkaaDoorDgB
import Derived.Deep.RegionHeld3
import Derived.StillTailTactics
namespace Go.Proofs.YtbcgnacfhpahkaaDoor.dg
open Go.RowKit Mem DM
set_option linter.unusedVariables false
def wvs (l : List UInt32) : List Value := l.map wv
theorem wvs_len (l : List UInt32) : (wvs l).length = l.length := by simp [wvs]
theorem wvs_one (l : List UInt32) : ∀ v ∈ wvs l, v.oneCell' = true := by
  intro v hv
  obtain ⟨x, _, rfl⟩ := List.mem_map.1 hv
  rfl
theorem wvs_at (l : List UInt32) (k : Nat) (h : k < l.length) : (wvs l)[k]? = some (wv (l.getD k 0)) := by
  simp [wvs, h]
theorem range_new (w : World) (cs : List Value) (t : TypeId) : (w.alloc (.cells cs.toArray t)).rangeAt w.heap.size 0 cs := by
  intro j v hj
  have h : (w.alloc (.cells cs.toArray t)).heap[w.heap.size]? = some (.cells cs.toArray t) := by
    show (w.heap.push _)[w.heap.size]? = _
    simp
  unfold World.cell?
  rw [h]
  simpa using hj
theorem there_new (w : World) (cs : List Value) (t : TypeId) : (w.alloc (.cells cs.toArray t)).there w.heap.size 0 cs.length := by
  intro j hj
  refine ⟨?_, ?_⟩
  · rw [range_new w cs t j cs[j] (List.getElem?_eq_getElem hj)]; rfl
  · go_simp
theorem range_below {w w' : World} {B b o : Nat} {cs : List Value} (h : w.rangeAt b o cs) (hb : Below B w w') (hlt : b < B) : w'.rangeAt b o cs := fun j v hj => (hb.cell (p := ⟨b, o + j, none⟩) hlt).trans (h j v hj)
theorem there_below {w w' : World} {B b o n : Nat} (h : w.there b o n) (hb : Below B w w') (hlt : b < B) (hl : b < w.heap.size) : w'.there b o n := fun j hj =>
  ⟨by rw [hb.cell (p := ⟨b, o + j, none⟩) hlt]; exact (h j hj).1, by rw [World.frozen?_of_block (w := w) (hb.block b hlt)]; exact (h j hj).2⟩
theorem range_keep {w w' : World} {b2 b o : Nat} {cs : List Value} (h : w.rangeAt b o cs) (hk : Keep1 w w' b2) (hlt : b < w.heap.size) (hne : b ≠ b2) : w'.rangeAt b o cs := fun j v hj => (hk.cell (a := ⟨b, o + j, none⟩) hlt hne).trans (h j v hj)
theorem there_keep {w w' : World} {b2 b o n : Nat} (h : w.there b o n) (hk : Keep1 w w' b2) (hlt : b < w.heap.size) (hne : b ≠ b2) : w'.there b o n := fun j hj =>
  ⟨by rw [hk.cell (a := ⟨b, o + j, none⟩) hlt hne]; exact (h j hj).1, by rw [World.frozen?_of_block (w := w) (hk.block b hlt hne)]; exact (h j hj).2⟩
theorem range_rd {w : World} {b o : Nat} {cs : List Value} (h : w.rangeAt b o cs) (hlt : b < w.heap.size) (i : Nat) (hi : i ≤ cs.length) : Rd w w.heap.size (some ⟨b, o + i, none⟩) (cs.length - i) (cs.drop i) := by
  refine ⟨by simp, fun _ => ⟨b, o + i, rfl, hlt, fun k hk => ?_⟩⟩
  rw [List.getElem?_drop, Nat.add_assoc, List.getElem?_eq_getElem (by omega)]
  exact h (i + k) _ (List.getElem?_eq_getElem (by omega))
theorem Keep1.drew {w w' : World} {b : Nat} (h : Keep1 w w' b) : Keep1 w w'.drew b := ⟨h.os, h.tape, h.output, h.size, h.block⟩
/-- the array that is being filled: the first t words, and noughts -/
def fill (L : List UInt8) (t : Nat) : List Value := wvs (wordsN L t) ++ List.replicate (64 - t) (.int .u32 0)
theorem fill_len (L : List UInt8) (t : Nat) (h : t ≤ 64) : (fill L t).length = 64 := by simp [fill, wvs_len, wordsN_len]; omega
theorem fill_at (L : List UInt8) (t k : Nat) (h : k < t) : (fill L t)[k]? = some (wv ((wordsN L t).getD k 0)) := by
  unfold fill
  rw [List.getElem?_append_left (by rw [wvs_len, wordsN_len]; exact h), wvs_at _ _ (by rw [wordsN_len]; exact h)]
theorem fill_step {w : World} {b : Nat} {L : List UInt8} {t : Nat} (h : w.rangeAt b 0 (fill L t)) (hl : w.there b 0 64) (ht : t < 64) (x : UInt32) (hx : x = if t < 16 then word L t else made (wordsN L t) t) :
    (w.setCell ⟨b, t, none⟩ (wv x)).rangeAt b 0 (fill L (t + 1)) ∧ (w.setCell ⟨b, t, none⟩ (wv x)).there b 0 64 := by
  have hsub : w.there b t 1 := by
    have := there_sub hl t 1 (by omega)
    rw [Nat.zero_add] at this
    exact this
  have hth := there_set hl b t [wv x] hsub
  refine ⟨fun j v hj => ?_, hth⟩
  have hj64 : j < 64 := by
    have := (List.getElem?_eq_some_iff.1 hj).1
    rw [fill_len L (t + 1) (by omega)] at this
    exact this
  have hsome := hl t ht
  rw [Nat.zero_add] at hsome
  rw [Nat.zero_add]
  by_cases hjt : j = t
  · subst hjt
    obtain ⟨u, hu⟩ := Option.isSome_iff_exists.1 hsome.1
    rw [World.cell?_setCell_same w _ _ hu]
    rw [fill_at L (j + 1) j (by omega)] at hj
    rw [← hj, wordsN, hx]
    congr 2
    rw [List.getD_eq_getElem?_getD, List.getElem?_append_right (by rw [wordsN_len]; omega), wordsN_len]
    simp
  · rw [World.cell?_setCell_other w _ _ _ (fun e => hjt (by injection e with _ e2; exact e2.symm))]
    have hold : (fill L t)[j]? = some v := by
      rw [← hj]
      unfold fill
      by_cases hlt : j < t
      · rw [List.getElem?_append_left (by rw [wvs_len, wordsN_len]; exact hlt), List.getElem?_append_left (by rw [wvs_len, wordsN_len]; omega), wvs_at _ _ (by rw [wordsN_len]; exact hlt), wvs_at _ _ (by rw [wordsN_len]; omega)]
        congr 2
        rw [wordsN, List.getD_eq_getElem?_getD, List.getD_eq_getElem?_getD, List.getElem?_append_left (by rw [wordsN_len]; exact hlt)]
      · rw [List.getElem?_append_right (by rw [wvs_len, wordsN_len]; omega), List.getElem?_append_right (by rw [wvs_len, wordsN_len]; omega), List.getElem?_replicate, List.getElem?_replicate]
        simp [wvs_len, wordsN_len]
        split <;> split <;> simp_all <;> omega
    have := h j v hold
    rw [Nat.zero_add] at this
    exact this
theorem results_row {P : Program} {w : World} {fn : Func} {a : Tmp} {t : TypeId} (h : fn.results = #[.cell a t]) (tmps : Array Value) (b o : Nat) (cs : List Value) (d : TypeDesc) (ha : tmps.getD a undef = .pointer (some ⟨b, o, none⟩))
    (hc : w.rangeAt b o cs) (hu : P.underlying t = some d) (hd : d.isRow = true) (hi : (P.info? t).map (·.size) = some cs.length) : (results fn tmps).run P w = .ok (.agg cs.toArray) w := by
  have := run_loadVar_mid (P := P) w b o t cs d hc hu hd hi
  have ha2 : tmps[a]?.getD undef = .pointer (some ⟨b, o, none⟩) := by simpa using ha
  simp [results, h, ha2, asAddr, this]
theorem xor_w (x y : UInt32) : bits BinOp.xor IntKind.u32 (x.toNat : Int) (y.toNat : Int) = ((x ^^^ y).toNat : Int) := by
  rw [u32_xor_nat _ _ x.toNat_lt y.toNat_lt, UInt32.toNat_xor]
theorem and_w (x y : UInt32) : bits BinOp.and IntKind.u32 (x.toNat : Int) (y.toNat : Int) = ((x &&& y).toNat : Int) := by
  rw [u32_and_nat _ _ x.toNat_lt y.toNat_lt, UInt32.toNat_and]
theorem shr10_w (x : UInt32) : ((x.toNat : Nat) : Int) / (1024 : Int) = ((x >>> 10).toNat : Int) := by
  rw [UInt32.toNat_shiftRight, Nat.shiftRight_eq_div_pow]
  have : (10 : UInt32).toNat % 32 = 10 := by decide
  rw [this]
  omega
theorem shr3_w (x : UInt32) : ((x.toNat : Nat) : Int) / (8 : Int) = ((x >>> 3).toNat : Int) := by
  rw [UInt32.toNat_shiftRight, Nat.shiftRight_eq_div_pow]
  have : (3 : UInt32).toNat % 32 = 3 := by decide
  rw [this]
  omega
theorem add_w (x y : UInt32) : ((x.toNat : Int) + (y.toNat : Int)) % 4294967296 = ((x + y).toNat : Int) := by
  rw [UInt32.toNat_add]
  omega
theorem made_val (x16 x15 x7 x2 : UInt32) :
    ((x16.toNat : Int) + bits BinOp.xor IntKind.u32 (bits BinOp.xor IntKind.u32 ((rr x15 7).toNat : Int) ((rr x15 18).toNat : Int)) ((x15.toNat : Int) / 8) + (x7.toNat : Int) +
      bits BinOp.xor IntKind.u32 (bits BinOp.xor IntKind.u32 ((rr x2 17).toNat : Int) ((rr x2 19).toNat : Int)) ((x2.toNat : Int) / 1024)) % 4294967296 = ((x16 + far x15 + x7 + near x2).toNat : Int) := by
  rw [shr3_w, shr10_w, xor_w, xor_w, xor_w, xor_w]
  unfold far near
  rw [UInt32.toNat_add, UInt32.toNat_add, UInt32.toNat_add]
  omega
theorem cut_arr {T : TypeId} {N : Nat} (ht : Tryd.prog.underlying T = some (.array (Tryd.prog.arrayLen T) (Tryd.prog.elem T))) (hal : Tryd.prog.arrayLen T = N) (hsz : ∀ w : World, (sizeOf (Tryd.prog.elem T)).run Tryd.prog w = .ok 1 w)
    (g o k : Nat) (hk : k < N) (kl : IntKind) (z : Int) (hz : z = (k : Int)) (w : World) :
    (Instr.sliceAt T (.pointer (some ⟨g, o, none⟩)) (some (.int kl z)) none none).run Tryd.prog w = .ok (.slice (some ⟨g, o + k, none⟩) (N - k) (N - k)) w := by
  rw [run_sliceAt_array_l w T ⟨g, o, none⟩ ht kl z (by omega) (by rw [hal]; omega), hsz w, hal, hz]
  simp only [Result.andThen_ok, slicedAt, Int.toNat_natCast, Nat.mul_one]
  rw [if_neg (by omega), Addr.add_mid]
theorem u8size (w : World) : (sizeOf 5).run Tryd.prog w = .ok 1 w := by
  obtain ⟨i, hi, hz, hsz, hby⟩ := u8ty.hi
  simp [sizeOf, typeInfo, hi, hsz]
theorem cut64 (g o k : Nat) (hk : k < 64) (kl : IntKind) (z : Int) (hz : z = (k : Int)) (w : World) :
    (Instr.sliceAt 109 (.pointer (some ⟨g, o, none⟩)) (some (.int kl z)) none none).run Tryd.prog w = .ok (.slice (some ⟨g, o + k, none⟩) (64 - k) (64 - k)) w :=
  cut_arr (T := 109) (by kernel_rfl) (by kernel_rfl) (fun w => by rw [show Tryd.prog.elem 109 = 5 by kernel_rfl]; exact u8size w) g o k hk kl z hz w
set_option maxHeartbeats 4000000 in
theorem words_any (L : List UInt8) (hL : L.length = 64) (w : World) :
    Calls Tryd.prog 74 #[.agg (bv L).toArray] w fun e w' => e = .returned (.agg (wvs (wordsN L 64)).toArray) ∧ Below w.heap.size w w' := by
  have hbl : (bv L).length = 64 := by rw [bv_len, hL]
  obtain ⟨cs, hcs⟩ : ∃ cs, bv L = cs := ⟨_, rfl⟩
  obtain ⟨W, hW⟩ : ∃ W, W = ((w.alloc (.cells cs.toArray 109)).alloc (.cells (fill L 0).toArray 114)).alloc (.cells (fill L 0).toArray 114) := ⟨_, rfl⟩
  obtain ⟨g, hg⟩ : ∃ g, g = w.heap.size := ⟨_, rfl⟩
  have hWB : Below w.heap.size w W := by rw [hW]; exact (((Below.refl _ _).alloc (Nat.le_refl _) _).alloc (by simp) _).alloc (by simp; omega) _
  have hWs : W.heap.size = g + 3 := by rw [hW, hg]; simp
  have hb1 : W.rangeAt g 0 cs := by
    have h1 := range_new w cs 109
    rw [← hg] at h1
    rw [hW]
    exact range_below (range_below h1 ((Below.refl _ _).alloc (Nat.le_refl _) _) (by simp; omega)) ((Below.refl _ _).alloc (Nat.le_refl _) _) (by simp; omega)
  have hb3 : W.rangeAt (g + 2) 0 (fill L 0) ∧ W.there (g + 2) 0 64 := by
    have h1 := range_new ((w.alloc (.cells cs.toArray 109)).alloc (.cells (fill L 0).toArray 114)) (fill L 0) 114
    have h2 := there_new ((w.alloc (.cells cs.toArray 109)).alloc (.cells (fill L 0).toArray 114)) (fill L 0) 114
    rw [← hW] at h1 h2
    rw [fill_len L 0 (by omega)] at h2
    have e : ((w.alloc (.cells cs.toArray 109)).alloc (.cells (fill L 0).toArray 114)).heap.size = g + 2 := by rw [hg]; simp
    rw [e] at h1 h2
    exact ⟨h1, h2⟩
  have hb2 : W.there (g + 1) 0 64 := by
    have h2 := there_new (w.alloc (.cells cs.toArray 109)) (fill L 0) 114
    rw [fill_len L 0 (by omega)] at h2
    have e : (w.alloc (.cells cs.toArray 109)).heap.size = g + 1 := by rw [hg]; simp
    rw [e] at h2
    rw [hW]
    exact there_below h2 ((Below.refl _ _).alloc (Nat.le_refl _) _) (by simp; omega) (by simp; omega)
  have HW := Lib.hid hW
  have HG := Lib.hid hg
  have HCS := Lib.hid hcs
  have HWS := Lib.hid hWs
  have HB1 := Lib.hid hb1
  have HB2 := Lib.hid hb2
  have HB3 := Lib.hid hb3
  rw [hcs] at hbl ⊢
  clear hW hb1 hb2 hb3 hcs hWs hg
  go_enter Tryd.func74, Tryd.ntmps74
  go_wp2_with fail
  show Code.wp _ _ _ _ (((w.alloc (.cells cs.toArray 109)).alloc (.cells (fill L 0).toArray 114)).alloc (.cells (fill L 0).toArray 114))
  rw [← HW.out, show w.heap.size + 1 + 1 = w.heap.size + 2 from rfl, ← HG.out]
  go_loopw [4, 5, 6, 7] (fun _ _ _ i wr => ∃ t : Nat, i = .int .i64 t ∧ t ≤ 64 ∧ Keep1 W wr (g + 2) ∧ wr.rangeAt (g + 2) 0 (fill L t) ∧ wr.there (g + 2) 0 64) (fun _ _ _ i _ => 64 - (intOf i).toNat)
  case atStart => exact ⟨0, rfl, by omega, Keep1.refl _ _, HB3.out.1, HB3.out.2⟩
  case round =>
    obtain ⟨t, rfl, ht, hk, hrg, hth⟩ := hrel
    by_cases hlt : t < 64
    · by_cases h16 : t < 16
      · have hgl : g < W.heap.size := by rw [HWS.out]; omega
        have hb1 := range_keep HB1.out hk hgl (by omega)
        have hrd := range_rd hb1 (Nat.lt_of_lt_of_le hgl hk.size) (4 * t) (by omega)
        rw [Nat.zero_add, hbl, ← HCS.out, ← bv_drop] at hrd
        have hget := get_any (some ⟨g, 4 * t, none⟩) (64 - 4 * t) (64 - 4 * t) _ (L.drop (4 * t)) wr hrd (by omega) (Nat.le_refl _)
        rw [show word0 (L.drop (4 * t)) = word L t from rfl] at hget
        have HGET := Lib.hid hget
        have hsl := cut64 g 0 (4 * t) (by omega) .i64 ((t : Int) * 4) (by omega)
        rw [Nat.zero_add] at hsl
        obtain ⟨q, hq⟩ : ∃ q, 64 - 4 * t = q := ⟨_, rfl⟩
        rw [hq] at hsl HGET
        clear hq
        obtain ⟨hs1, hz1⟩ := hth t hlt
        rw [Nat.zero_add] at hs1 hz1
        obtain ⟨u0, hu0⟩ := Option.isSome_iff_exists.1 hs1
        have hst := fill_step hrg hth hlt (word L t) (by rw [if_pos h16])
        have HST := Lib.hid hst
        have HK := Lib.hid hk
        have k16 : (t : Int) < 16 := by omega
        have k64 : (t : Int) < 64 := by omega
        have k4 : (t : Int) * 4 ≤ 64 := by omega
        unfold wv at *
        clear hget hrd hb1 hst hrg hth hk
        go_wp2_with (go_at_call 91; refine HGET.out.mono ?_; rintro e w' ⟨rfl, rfl⟩)
        exact ⟨⟨t + 1, by go_num, by omega, HK.out.trans (Keep1.set _ _ _ _), HST.out.1, HST.out.2⟩, by simp [intOf]; omega⟩
      · have hcell : ∀ k, 1 ≤ k → k ≤ t → wr.cell? ⟨g + 2, t - k, none⟩ = some (wv ((wordsN L t).getD (t - k) 0)) := fun k h1 h2 => by
          have := hrg (t - k) _ (fill_at L t (t - k) (by omega))
          rw [Nat.zero_add] at this
          exact this
        have e2 := hcell 2 (by omega) (by omega)
        have e7 := hcell 7 (by omega) (by omega)
        have e15 := hcell 15 (by omega) (by omega)
        have e16 := hcell 16 (by omega) (by omega)
        obtain ⟨hs1, hz1⟩ := hth t hlt
        rw [Nat.zero_add] at hs1 hz1
        obtain ⟨u0, hu0⟩ := Option.isSome_iff_exists.1 hs1
        have hst := fill_step hrg hth hlt (made (wordsN L t) t) (by rw [if_neg h16])
        have hmade : made (wordsN L t) t = (wordsN L t).getD (t - 16) 0 + far ((wordsN L t).getD (t - 15) 0) + (wordsN L t).getD (t - 7) 0 + near ((wordsN L t).getD (t - 2) 0) := rfl
        rw [hmade] at hst
        generalize (wordsN L t).getD (t - 2) 0 = x2 at *
        generalize (wordsN L t).getD (t - 7) 0 = x7 at *
        generalize (wordsN L t).getD (t - 15) 0 = x15 at *
        generalize (wordsN L t).getD (t - 16) 0 = x16 at *
        have r17 : ∀ w : World, Calls Tryd.prog 90 #[.int .u32 (x2.toNat : Int), .int .i64 17] w fun e w' => e = .returned (.int .u32 ((rr x2 17).toNat : Int)) ∧ w = w' := fun w => right_any x2 17 (by omega) (by omega) w
        have r19 : ∀ w : World, Calls Tryd.prog 90 #[.int .u32 (x2.toNat : Int), .int .i64 19] w fun e w' => e = .returned (.int .u32 ((rr x2 19).toNat : Int)) ∧ w = w' := fun w => right_any x2 19 (by omega) (by omega) w
        have r7 : ∀ w : World, Calls Tryd.prog 90 #[.int .u32 (x15.toNat : Int), .int .i64 7] w fun e w' => e = .returned (.int .u32 ((rr x15 7).toNat : Int)) ∧ w = w' := fun w => right_any x15 7 (by omega) (by omega) w
        have r18 : ∀ w : World, Calls Tryd.prog 90 #[.int .u32 (x15.toNat : Int), .int .i64 18] w fun e w' => e = .returned (.int .u32 ((rr x15 18).toNat : Int)) ∧ w = w' := fun w => right_any x15 18 (by omega) (by omega) w
        unfold wv at *
        obtain ⟨M, hM⟩ : ∃ z, (x16 + far x15 + x7 + near x2).toNat = z := ⟨_, rfl⟩
        rw [hM] at hst
        have HM := Lib.hid hM
        have HST := Lib.hid hst
        have HK := Lib.hid hk
        clear hM
        obtain ⟨X2, hX2⟩ : ∃ z, x2.toNat = z := ⟨_, rfl⟩
        obtain ⟨X7, hX7⟩ : ∃ z, x7.toNat = z := ⟨_, rfl⟩
        obtain ⟨X15, hX15⟩ : ∃ z, x15.toNat = z := ⟨_, rfl⟩
        obtain ⟨X16, hX16⟩ : ∃ z, x16.toNat = z := ⟨_, rfl⟩
        obtain ⟨R17, hR17⟩ : ∃ z, (rr x2 17).toNat = z := ⟨_, rfl⟩
        obtain ⟨R19, hR19⟩ : ∃ z, (rr x2 19).toNat = z := ⟨_, rfl⟩
        obtain ⟨R7, hR7⟩ : ∃ z, (rr x15 7).toNat = z := ⟨_, rfl⟩
        obtain ⟨R18, hR18⟩ : ∃ z, (rr x15 18).toNat = z := ⟨_, rfl⟩
        rw [hX2] at e2 r17 r19
        rw [hX7] at e7
        rw [hX15] at e15 r7 r18
        rw [hX16] at e16
        rw [hR17] at r17
        rw [hR19] at r19
        rw [hR7] at r7
        rw [hR18] at r18
        have Q17 := Lib.hid r17
        have Q19 := Lib.hid r19
        have Q7 := Lib.hid r7
        have Q18 := Lib.hid r18
        have HX := Lib.hid (⟨hX2, hX7, hX15, hX16, hR17, hR19, hR7, hR18⟩ : x2.toNat = X2 ∧ x7.toNat = X7 ∧ x15.toNat = X15 ∧ x16.toNat = X16 ∧ (rr x2 17).toNat = R17 ∧ (rr x2 19).toNat = R19 ∧ (rr x15 7).toNat = R7 ∧ (rr x15 18).toNat = R18)
        have k16 : ¬ (t : Int) < 16 := by omega
        have k64 : (t : Int) < 64 := by omega
        have t2 : (t : Int) - 2 < 64 := by omega
        have t15 : (t : Int) - 15 < 64 := by omega
        have t7 : (t : Int) - 7 < 64 := by omega
        have t16 : (t : Int) - 16 < 64 := by omega
        have s2 : (0 : Int) ≤ (t : Int) - 2 := by omega
        have s15 : (0 : Int) ≤ (t : Int) - 15 := by omega
        have s7 : (0 : Int) ≤ (t : Int) - 7 := by omega
        have s16 : (0 : Int) ≤ (t : Int) - 16 := by omega
        have n2 : ((t : Int) - 2).toNat = t - 2 := by omega
        have n15 : ((t : Int) - 15).toNat = t - 15 := by omega
        have n7 : ((t : Int) - 7).toNat = t - 7 := by omega
        have n16 : ((t : Int) - 16).toNat = t - 16 := by omega
        clear hst hrg hth hk hcell r17 r19 r7 r18 hX2 hX7 hX15 hX16 hR17 hR19 hR7 hR18 hmade
        go_wp2_with fail
        go_region
        go_wp2_with (first
          | (go_at_call 90; with_reducible refine (Q17.out _).mono ?_; rintro e w' ⟨rfl, rfl⟩)
          | (go_at_call 90; with_reducible refine (Q19.out _).mono ?_; rintro e w' ⟨rfl, rfl⟩)
          | (go_at_call 90; with_reducible refine (Q7.out _).mono ?_; rintro e w' ⟨rfl, rfl⟩)
          | (go_at_call 90; with_reducible refine (Q18.out _).mono ?_; rintro e w' ⟨rfl, rfl⟩)
          | fail)
        go_region
        obtain ⟨hX2, hX7, hX15, hX16, hR17, hR19, hR7, hR18⟩ := HX.out
        have hval := made_val x16 x15 x7 x2
        rw [hX2, hX7, hX15, hX16, hR17, hR19, hR7, hR18, HM.out] at hval
        rw [hval]
        clear hX2 hX7 hX15 hX16 hR17 hR19 hR7 hR18 hval
        go_wp2_with fail
        exact ⟨⟨t + 1, by go_num, by omega, (HK.out.trans (Keep1.set _ _ _ _)).drew.drew, HST.out.1, HST.out.2⟩, by simp [intOf]; omega⟩
    · obtain rfl : t = 64 := by omega
      have hgl : g + 1 < W.heap.size := by rw [HWS.out]; omega
      have h2 := there_keep HB2.out hk hgl (by omega)
      have hfull : fill L 64 = wvs (wordsN L 64) := by unfold fill; simp
      rw [hfull] at hrg
      have hlenw : (wvs (wordsN L 64)).length = 64 := by rw [wvs_len, wordsN_len]
      have honew := wvs_one (wordsN L 64)
      obtain ⟨V, hV⟩ : ∃ V, wvs (wordsN L 64) = V := ⟨_, rfl⟩
      rw [hV] at hrg hlenw honew
      have HV := Lib.hid hV
      clear hV hfull
      go_wp2_with (first
        | (refine wpList_load_mid rfl 114 (.tmp 3) rfl (g + 2) 0 rfl V _ hrg Tryd.underlying114 rfl (by rw [hlenw]; kernel_rfl) ?_)
        | (refine wpList_store_mid rfl 114 (.tmp 2) (.tmp 58) rfl (g + 1) 0 V.toArray rfl rfl (by rw [List.size_toArray, hlenw]; exact h2) (by rw [List.size_toArray, hlenw]; kernel_rfl) (all_oneCell_toArray honew) ?_)
        | fail)
      refine bodyPost_ret (v := .agg V.toArray) ?_ rfl ?_
      · exact results_row rfl _ (g + 1) 0 V _ rfl (World.rangeAt_setCells_same wr (g + 1) 0 V (by rw [hlenw]; exact h2)) Tryd.underlying114 rfl (by rw [hlenw]; kernel_rfl)
      · refine ⟨by rw [HV.out], ?_⟩
        have hle : w.heap.size ≤ W.heap.size := hWB.size
        have hb := hk.below hWB hle (by rw [HG.out]; omega)
        exact (Keep1.sets (g + 1) V 0 wr).below hb hb.size (by rw [HG.out]; omega)
end Go.Proofs.YtbcgnacfhpahkaaDoor.dg
