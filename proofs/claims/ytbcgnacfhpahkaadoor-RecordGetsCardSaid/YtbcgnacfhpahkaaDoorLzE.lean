/- lz: a place forgotten, a place learnt, the window's end set farther. -/
import Derived.Test.YtbcgnacfhpahkaaDoorLzD
import Derived.Deep.RegionHeld3
namespace Go.Proofs.YtbcgnacfhpahkaaDoor.lz
set_option maxRecDepth 20000
open Go.RowKit Mem OM LM oct
open Go.Maps (Keyed)
set_option linter.unusedVariables false
attribute [local go_sem] Oper.semAt_some
variable {w w' : World} {x mb n c0 lo e : Nat} {A0 : Option Addr} {B : List UInt8} {f : List UInt8 → Option Nat}
theorem last_forget (h : ∀ s, s.length = 3 → Last B lo e s (f s)) (hk : ∀ s, s.length = 3 → f s = some lo → False) : ∀ s, s.length = 3 → Last B (lo + 1) e s (f s) := fun s hs => by
  have h1 := h s hs
  cases hf : f s with
  | none =>
    rw [hf] at h1
    exact fun r hr => h1 r (by omega)
  | some q =>
    rw [hf] at h1
    obtain ⟨k1, k2, k3, k4⟩ := h1
    refine ⟨?_, k2, k3, k4⟩
    rcases Nat.lt_or_ge lo q with h2 | h2
    · exact h2
    · obtain rfl : q = lo := by omega
      exact absurd hf (fun e => hk s hs e)
theorem last_drop (h : ∀ s, s.length = 3 → Last B lo e s (f s)) (hl : (st B lo).length = 3) (hf : f (st B lo) = some lo) : ∀ s, s.length = 3 → Last B (lo + 1) e s (updF f (st B lo) none s) := fun s hs => by
  unfold updF
  by_cases hss : s = st B lo
  · rw [if_pos hss]
    have h1 := h s hs
    rw [hss, hf] at h1
    obtain ⟨k1, k2, k3, k4⟩ := h1
    rw [hss]
    exact fun r h2 h3 => k4 r (by omega) h3
  · rw [if_neg hss]
    have h1 := h s hs
    cases hfs : f s with
    | none =>
      rw [hfs] at h1
      exact fun r hr => h1 r (by omega)
    | some q =>
      rw [hfs] at h1
      obtain ⟨k1, k2, k3, k4⟩ := h1
      refine ⟨?_, k2, k3, k4⟩
      rcases Nat.lt_or_ge lo q with h2 | h2
      · exact h2
      · obtain rfl : q = lo := by omega
        exact absurd k3.symm hss
theorem last_learn (h : ∀ s, s.length = 3 → Last B lo e s (f s)) (hlo : lo ≤ e) : ∀ s, s.length = 3 → Last B lo (e + 1) s (updF f (st B e) (some e) s) := fun s hs => by
  unfold updF
  by_cases hss : s = st B e
  · rw [if_pos hss]
    exact ⟨hlo, by omega, hss.symm, fun r h1 h2 => by omega⟩
  · rw [if_neg hss]
    have h1 := h s hs
    cases hfs : f s with
    | none =>
      rw [hfs] at h1
      intro r hr hr2
      rcases Nat.lt_or_ge r e with h2 | h2
      · exact h1 r hr h2
      · obtain rfl : r = e := by omega
        exact fun e => hss e.symm
    | some q =>
      rw [hfs] at h1
      obtain ⟨k1, k2, k3, k4⟩ := h1
      refine ⟨k1, by omega, k3, fun r h2 h3 => ?_⟩
      rcases Nat.lt_or_ge r e with h4 | h4
      · exact k4 r h2 h4
      · obtain rfl : r = e := by omega
        exact fun e => hss e.symm
theorem last_short (h : ∀ s, s.length = 3 → Last B lo e s (f s)) (hl : (st B e).length ≠ 3) : ∀ s, s.length = 3 → Last B lo (e + 1) s (f s) := fun s hs => by
  have h1 := h s hs
  have hss : st B e ≠ s := fun e1 => hl (by rw [e1, hs])
  cases hfs : f s with
  | none =>
    rw [hfs] at h1
    intro r hr hr2
    rcases Nat.lt_or_ge r e with h2 | h2
    · exact h1 r hr h2
    · obtain rfl : r = e := by omega
      exact hss
  | some q =>
    rw [hfs] at h1
    obtain ⟨k1, k2, k3, k4⟩ := h1
    refine ⟨k1, by omega, k3, fun r h2 h3 => ?_⟩
    rcases Nat.lt_or_ge r e with h4 | h4
    · exact k4 r h2 h4
    · obtain rfl : r = e := by omega
      exact hss
/-- the same window, with another map -/
theorem Win.turn (h : Win w x mb n c0 A0 B lo e f) {lo' : Nat} {f' : List UInt8 → Option Nat} (k : Kept w w' (· = mb)) (hm : MapW w' mb f' e) (hl : ∀ s, s.length = 3 → Last B lo' e s (f' s)) : Win w' x mb n c0 A0 B lo' e f' := by
  have h1 := h.lt.1
  have h2 := h.lt.2
  have hb : ¬ x = mb := by omega
  exact ⟨(k.cell (a := ⟨x, 0, none⟩) h2 hb).trans h.k0, (k.cell (a := ⟨x, 2, none⟩) h2 hb).trans h.k2, k.rd h.rd (by omega) (fun i _ hi => by omega), h.nc, hm,
    fun i hi => by
      obtain ⟨v, hv⟩ := h.ar i hi
      exact ⟨v, (k.cell (a := ⟨x, 3 + i, none⟩) h2 hb).trans hv⟩,
    fun p h3 h4 h5 => by
      obtain ⟨o, ho, hl⟩ := h.be p h3 h4 h5
      exact ⟨o, (k.cell (a := ⟨x, 3 + p % 512, none⟩) h2 hb).trans ho, hl⟩,
    hl, fun o => (k.frozen (a := ⟨x, o, none⟩) h2 hb).trans (h.fz o), h1, Nat.lt_of_lt_of_le h2 k.size⟩
theorem forget_no (q : Int) (hq : q < 0) (w : World) (h : Win w x mb n c0 A0 B lo e f) :
    Calls Tryd.prog 80 #[.pointer (some ⟨x, 0, none⟩), .int .i64 q] w fun en w' => en = .returned (.tuple #[]) ∧ w' = w := by
  clear h
  go_enter Tryd.func80, Tryd.ntmps80
  go_wp2_with fail
  exact bodyPost_ret (results_none rfl _ _ _) rfl ⟨rfl, rfl⟩
theorem rng_below {w w' : World} {B b o : Nat} {cs : List Value} (h : w.rangeAt b o cs) (hb : Below B w w') (hlt : b < B) : w'.rangeAt b o cs := fun j v hj => (hb.cell (p := ⟨b, o + j, none⟩) hlt).trans (h j v hj)
theorem MapW.drew {mb K : Nat} (h : MapW w mb f K) : MapW w.drew mb f K := (Kept.drew w (fun _ => False)).map h id
def ForgetPost (w : World) (x mb n c0 : Nat) (A0 : Option Addr) (B : List UInt8) (lo e : Nat) (en : Ending) (w' : World) : Prop := en = .returned (.tuple #[]) ∧ ∃ f', Win w' x mb n c0 A0 B lo e f' ∧ Kept w w' (· = mb)
theorem alloc_rng (w : World) (a b c : UInt8) (t : TypeId) : (w.alloc (.cells #[.int .u8 (a.toNat : Int), .int .u8 (b.toNat : Int), .int .u8 (c.toNat : Int)] t)).rangeAt w.heap.size 0 (bv [a, b, c]) := start_there w [a, b, c] t
set_option maxHeartbeats 1000000 in
theorem forget_yes (w : World) (h : Win w x mb n c0 A0 B lo e f) (hlo : lo ≤ 1048576) :
    Calls Tryd.prog 80 #[.pointer (some ⟨x, 0, none⟩), .int .i64 (lo : Nat)] w (ForgetPost w x mb n c0 A0 B (lo + 1) e) := by
  have hl := h.len
  have HH := Lib.hid h
  by_cases hs : n < lo + 3
  · have hno := start_no lo w h (by omega) hs
    have HNO := Lib.hid hno
    have HLA := Lib.hid (last_forget h.la (fun s h1 h2 => by
      have := h.la s h1
      rw [h2] at this
      have h3 := congrArg List.length this.2.2.1
      rw [st_len, h1, hl] at h3
      omega))
    clear h hno
    go_enter Tryd.func80, Tryd.ntmps80
    go_wp2_with (go_at_call 77; refine (HNO.out).mono ?_; rintro en w1 ⟨rfl, hb1⟩)
    have hk : Below w.heap.size w (w1.alloc (.cells #[.int .u8 0, .int .u8 0, .int .u8 0] 119)) := hb1.alloc hb1.size _
    have hk1 : Kept w (w1.alloc (.cells #[.int .u8 0, .int .u8 0, .int .u8 0] 119)) (· = mb) := (Kept.ofBelow hk).more (fun i hi hc => by omega)
    exact ⟨rfl, _, results_none rfl _ _ _, rfl, f, HH.out.turn hk1 ((Kept.ofBelow hk).map HH.out.mp (by have := HH.out.lt; omega)) HLA.out, hk1⟩
  · have hyes := start_yes lo w h (by omega) (by omega)
    have hsl : (st B lo).length = 3 := by rw [st_len, hl]; omega
    obtain ⟨b0, b1, b2, hst⟩ := three hsl
    have hfind := fun y (hy : Below w.heap.size w y) => find_w (st B lo) y (h.below hy) hsl
    have hx := h.lt
    rw [hst] at hyes
    simp only [hst, bv, List.map_cons, List.map_nil] at hfind hyes
    have HY := Lib.hid hyes
    have HFI := Lib.hid hfind
    have HST := Lib.hid (And.intro hst hsl)
    have h2 := h.k2
    clear h hyes hfind hsl
    by_cases hf : f [b0, b1, b2] = some lo
    · have hov : ov (f [b0, b1, b2]) = (lo : Int) := by rw [hf]; rfl
      have HF := Lib.hid hf
      rw [hov] at HFI
      clear hf hov hst
      go_enter Tryd.func80, Tryd.ntmps80
      go_wp2_with (go_at_call 77; refine (HY.out).mono ?_; rintro en w1 ⟨rfl, hb1⟩)
      have hb2 : Below w.heap.size w (w1.alloc (.cells #[.int .u8 (b0.toNat : Int), .int .u8 (b1.toNat : Int), .int .u8 (b2.toNat : Int)] 119)) := hb1.alloc hb1.size _
      have hrg := alloc_rng w1 b0 b1 b2 119
      have hszw := hb1.size
      have hlt1 : w1.heap.size < (w1.alloc (.cells #[.int .u8 (b0.toNat : Int), .int .u8 (b1.toNat : Int), .int .u8 (b2.toNat : Int)] 119)).heap.size := by simp
      generalize w1.alloc (.cells #[.int .u8 (b0.toNat : Int), .int .u8 (b1.toNat : Int), .int .u8 (b2.toNat : Int)] 119) = w2 at *
      refine (HFI.out _ hb2).mono ?_
      rintro en w3 ⟨rfl, hb3⟩
      have hb3w : Below w.heap.size w w3 := hb2.trans (hb3.mono hb2.size)
      have e2 : w3.cell? ⟨x, 2, none⟩ = some (.map (some mb)) := (hb3w.cell (p := ⟨x, 2, none⟩) hx.2).trans h2
      have r3 : w3.rangeAt w1.heap.size 0 (bv [b0, b1, b2]) := rng_below hrg hb3 hlt1
      obtain ⟨D, hD1, hD2⟩ := ((Kept.ofBelow hb3w).map HH.out.mp (by omega)).drew
      have HD := Lib.hid (And.intro hD1 hD2)
      have HB3 := Lib.hid hb3w
      have hkey := key_of [b0, b1, b2] rfl
      simp only [bv, List.map_cons, List.map_nil] at hkey
      have HK := Lib.hid hkey
      clear hrg hb1 hb2 hb3 hb3w hlt1 hD1 hD2 hkey
      go_wp2_with fail
      refine wp_region_still_tail 5 (by kernel_rfl) (by kernel_rfl) ?_
      simp only [List.take_succ_cons, List.take_zero, List.drop_succ_cons, List.drop_zero]
      repeat still_step
      refine s_load rfl 119 (.tmp 4) rfl w1.heap.size 0 rfl _ _ r3 Tryd.underlying119 rfl info_start ?_
      simp only [bv, List.map_cons, List.map_nil]
      go_simp
      refine wpStill_nil ?_
      change wpList _ _ _ _ _ w3.drew
      refine wpList_delete_own _ rfl _ _ 89 119 rfl 3 startKeyed Tryd.underlying89 _ mb _ D rfl HD.out.1 _ (kl [b0, b1, b2]) rfl HK.out ?_
      intro w4 hown4 hturn4
      go_wp2_with fail
      have hk4 : Kept w w4 (· = mb) := ((Kept.ofBelow (below_drew HB3.out)).more (bad' := (· = mb)) (fun i hi hc => by omega)).trans (Kept.of hturn4.grown) (fun i _ hc => by injection hc with hc; exact hc.symm)
      have hla := last_drop HH.out.la HST.out.2 (by rw [HST.out.1]; exact HF.out)
      rw [HST.out.1] at hla
      exact ⟨rfl, _, results_none rfl _ _ _, rfl, _, HH.out.turn hk4 ⟨_, hown4, HD.out.2.del rfl⟩ hla, hk4⟩
    · have hov : ¬ ov (f [b0, b1, b2]) = (lo : Int) := by
        intro e1
        cases h1 : f [b0, b1, b2] with
        | none => rw [h1] at e1; simp only [ov] at e1; omega
        | some q =>
          rw [h1] at e1
          simp only [ov] at e1
          exact hf (by rw [h1]; congr 1; omega)
      have HF := Lib.hid hf
      generalize ov (f [b0, b1, b2]) = v at *
      clear hf hst
      go_enter Tryd.func80, Tryd.ntmps80
      go_wp2_with (go_at_call 77; refine (HY.out).mono ?_; rintro en w1 ⟨rfl, hb1⟩)
      have hb2 : Below w.heap.size w (w1.alloc (.cells #[.int .u8 (b0.toNat : Int), .int .u8 (b1.toNat : Int), .int .u8 (b2.toNat : Int)] 119)) := hb1.alloc hb1.size _
      refine (HFI.out _ hb2).mono ?_
      rintro en w3 ⟨rfl, hb3⟩
      have hb3w : Below w.heap.size w w3 := hb2.trans (hb3.mono hb2.size)
      clear hb1 hb2 hb3
      go_wp2_with fail
      have hk1 : Kept w w3 (· = mb) := (Kept.ofBelow hb3w).more (fun i hi hc => by omega)
      refine ⟨rfl, _, results_none rfl _ _ _, rfl, f, HH.out.turn hk1 ((Kept.ofBelow hb3w).map HH.out.mp (by omega)) ?_, hk1⟩
      exact last_forget HH.out.la (fun s h1 h2 => by
        have h3 := HH.out.la s h1
        rw [h2] at h3
        exact HF.out (by rw [← HST.out.1, h3.2.2.1]; exact h2))
/-- behind learning -/
def LearnPost (w : World) (x mb n c0 : Nat) (A0 : Option Addr) (B : List UInt8) (lo e : Nat) (en : Ending) (w' : World) : Prop := en = .returned (.tuple #[]) ∧ ∃ f', Win w' x mb n c0 A0 B lo (e + 1) f' ∧ Kept w w' (fun i => i = mb ∨ i = x) ∧ w'.cell? ⟨x, 1, none⟩ = w.cell? ⟨x, 1, none⟩
theorem Win.more_map {mb K K' : Nat} (h : MapW w mb f K) (hk : K ≤ K') : MapW w mb f K' := by
  obtain ⟨D, h1, h2⟩ := h
  exact ⟨D, h1.mono hk, h2⟩
def HeldK (x1 : World) (bk x i : Nat) (b0 b1 b2 : UInt8) (y : World) : Prop := y.cell? ⟨bk, 0, none⟩ = some (.int .u8 (b0.toNat : Int)) ∧ y.cell? ⟨bk, 1, none⟩ = some (.int .u8 (b1.toNat : Int)) ∧ y.cell? ⟨bk, 2, none⟩ = some (.int .u8 (b2.toNat : Int)) ∧ (∃ u : Int, y.cell? ⟨x, 3 + i, none⟩ = some (.int .i64 u)) ∧ y.frozen? ⟨x, 3 + i, none⟩ = false
set_option maxRecDepth 20000 in
set_option maxHeartbeats 2000000 in
theorem learn_any (w : World) (h : Win w x mb n c0 A0 B lo e f) (hlo : lo = e - 511) (he : e ≤ 1048576) :
    Calls Tryd.prog 81 #[.pointer (some ⟨x, 0, none⟩), .int .i64 (e : Nat)] w (LearnPost w x mb n c0 A0 B lo e) := by
  have hl := h.len
  have HH := Lib.hid h
  by_cases hs : n < e + 3
  · have hno := start_no e w h (by omega) hs
    have HNO := Lib.hid hno
    have HLA := Lib.hid (last_short h.la (by rw [st_len, hl]; omega))
    clear h hno
    go_enter Tryd.func81, Tryd.ntmps81
    go_wp2_with (go_at_call 77; refine (HNO.out).mono ?_; rintro en w1 ⟨rfl, hb1⟩)
    have hk : Below w.heap.size w (w1.alloc (.cells #[.int .u8 0, .int .u8 0, .int .u8 0] 119)) := hb1.alloc hb1.size _
    have hk1 : Kept w (w1.alloc (.cells #[.int .u8 0, .int .u8 0, .int .u8 0] 119)) (fun i => i = mb ∨ i = x) := (Kept.ofBelow hk).more (fun i hi hc => by omega)
    have hW := HH.out.below hk
    refine bodyPost_ret (results_none rfl _ _ _) rfl ⟨rfl, f, ⟨hW.k0, hW.k2, hW.rd, hW.nc, Win.more_map hW.mp (by omega), hW.ar, fun p h1 h2 h3 => hW.be p (by omega) (by omega) h3, HLA.out, hW.fz, hW.lt⟩, hk1, hk.cell (p := ⟨x, 1, none⟩) HH.out.lt.2⟩
  · have hyes := start_yes e w h (by omega) (by omega)
    have hsl : (st B e).length = 3 := by rw [st_len, hl]; omega
    obtain ⟨b0, b1, b2, hst⟩ := three hsl
    have hfind := fun y (hy : Below w.heap.size w y) => find_w (st B e) y (h.below hy) hsl
    have hx := h.lt
    rw [hst] at hyes
    simp only [hst, bv, List.map_cons, List.map_nil] at hfind hyes
    have HY := Lib.hid hyes
    have HFI := Lib.hid hfind
    have HST := Lib.hid (And.intro hst hsl)
    have h2 := h.k2
    have h0 := h.k0
    have hz := h.fz (3 + e % 512)
    obtain ⟨va, hva⟩ := h.ar (e % 512) (Nat.mod_lt _ (by omega))
    obtain ⟨i, hi⟩ : ∃ i, e % 512 = i := ⟨_, rfl⟩
    have hi5 : i < 512 := by omega
    have hi6 : (i : Int) < 512 := by omega
    have hi7 : (0 : Int) ≤ (i : Int) := by omega
    have hmod : (e : Int).tmod 512 = (i : Int) := by rw [Int.tmod_eq_emod_of_nonneg (by omega)]; omega
    rw [hi] at hva hz
    have HI := Lib.hid hi
    clear h hyes hfind hsl hi hst
    obtain ⟨v, hv⟩ : ∃ v, ov (f [b0, b1, b2]) = v := ⟨_, rfl⟩
    rw [hv] at HFI
    have HV := Lib.hid hv
    clear hv
    go_enter Tryd.func81, Tryd.ntmps81
    go_wp2_with (go_at_call 77; refine (HY.out).mono ?_; rintro en w1 ⟨rfl, hb1⟩)
    have hb2 : Below w.heap.size w (w1.alloc (.cells #[.int .u8 (b0.toNat : Int), .int .u8 (b1.toNat : Int), .int .u8 (b2.toNat : Int)] 119)) := hb1.alloc hb1.size _
    have hrg := alloc_rng w1 b0 b1 b2 119
    have hszw := hb1.size
    have hlt1 : w1.heap.size < (w1.alloc (.cells #[.int .u8 (b0.toNat : Int), .int .u8 (b1.toNat : Int), .int .u8 (b2.toNat : Int)] 119)).heap.size := by simp
    generalize w1.alloc (.cells #[.int .u8 (b0.toNat : Int), .int .u8 (b1.toNat : Int), .int .u8 (b2.toNat : Int)] 119) = w2 at *
    obtain ⟨bk, hbk⟩ : ∃ bk, w1.heap.size = bk := ⟨_, rfl⟩
    rw [hbk] at hrg hlt1 hszw ⊢
    have HS : Hid (∀ y, Below w2.heap.size w2 y → (y.cell? ⟨bk, 0, none⟩ = some (.int .u8 (b0.toNat : Int)) ∧ y.cell? ⟨bk, 1, none⟩ = some (.int .u8 (b1.toNat : Int)) ∧ y.cell? ⟨bk, 2, none⟩ = some (.int .u8 (b2.toNat : Int)) ∧ (∃ u : Int, y.cell? ⟨x, 3 + i, none⟩ = some (.int .i64 u)) ∧ y.frozen? ⟨x, 3 + i, none⟩ = false) ∧ Below w.heap.size w y) := Lib.hid (fun y hy => by
      have hw := hb2.trans (hy.mono hb2.size)
      have r := rng_below hrg hy hlt1
      exact ⟨⟨by simpa using r 0 _ rfl, by simpa using r 1 _ rfl, by simpa using r 2 _ rfl, ⟨va, (hw.cell (p := ⟨x, 3 + i, none⟩) hx.2).trans hva⟩, (World.frozen?_of_block (w := w) (hw.block x hx.2)).trans hz⟩, hw⟩)
    have k0 : Below w2.heap.size w2 w2.drew := below_drew (Below.refl _ _)
    have HRG := Lib.hid (And.intro hrg hlt1)
    clear hrg hlt1 hbk hb1 hb2 hva hz
    refine wp_region_held_drew (S := fun y => y.cell? ⟨bk, 0, none⟩ = some (.int .u8 (b0.toNat : Int)) ∧ y.cell? ⟨bk, 1, none⟩ = some (.int .u8 (b1.toNat : Int)) ∧ y.cell? ⟨bk, 2, none⟩ = some (.int .u8 (b2.toNat : Int)) ∧ (∃ u : Int, y.cell? ⟨x, 3 + i, none⟩ = some (.int .i64 u)) ∧ y.frozen? ⟨x, 3 + i, none⟩ = false) (by kernel_rfl) (HS.out _ k0).1 (fun hHeld => ?_)
    refine wpAnyH_take (i := 0) (v := .pointer (some ⟨x, 0, none⟩)) rfl (by kernel_rfl) (by kernel_rfl) (by kernel_rfl) (fun _ _ _ h => h) (Or.inl ⟨by rfl, ?hy0⟩) (by assumption) ?rest0
    case hy0 => (intro w hSw; (try dsimp only at hSw); go_split_ands; go_simp; try with_reducible rfl)
    try simp only [Act.put, List.setIfInBounds_toArray]
    refine wpAnyH_take (i := 1) (v := .int .i64 (e : Nat)) rfl (by kernel_rfl) (by kernel_rfl) (by kernel_rfl) (fun _ _ _ h => h) (Or.inl ⟨by rfl, ?hy1⟩) (by assumption) ?rest1
    case hy1 => (intro w hSw; (try dsimp only at hSw); go_split_ands; go_simp; try with_reducible rfl)
    try simp only [Act.put]
    refine wpAnyH_take (i := 2) (v := .int .i64 (i : Nat)) rfl (by kernel_rfl) (by kernel_rfl) (by kernel_rfl) (fun _ _ _ h => h) (Or.inl ⟨by rfl, ?hy2⟩) (by assumption) ?rest2
    case hy2 => (intro w hSw; (try dsimp only at hSw); go_split_ands; go_simp; try with_reducible rfl)
    try simp only [Act.put]
    refine wpAnyH_take (i := 3) (v := .pointer (some ⟨x, 0, none⟩)) rfl (by kernel_rfl) (by kernel_rfl) (by kernel_rfl) (fun _ _ _ h => h) (Or.inl ⟨by rfl, ?hy3⟩) (by assumption) ?rest3
    case hy3 => (intro w hSw; (try dsimp only at hSw); go_split_ands; go_simp; try with_reducible rfl)
    try simp only [Act.put]
    refine wpAnyH_take (i := 4) (v := .agg #[.int .u8 (b0.toNat : Int), .int .u8 (b1.toNat : Int), .int .u8 (b2.toNat : Int)]) rfl (by kernel_rfl) (by kernel_rfl) (by kernel_rfl) (fun _ _ _ h => h) (Or.inl ⟨by rfl, ?hy4⟩) (by assumption) ?rest4
    case hy4 => (intro w hSw; (try dsimp only at hSw); go_split_ands; go_simp; try with_reducible rfl)
    try simp only [Act.put]
    refine wpAnyH_take (i := 6) (v := .pointer (some ⟨x, 0, none⟩)) rfl (by kernel_rfl) (by kernel_rfl) (by kernel_rfl) (fun _ _ _ h => h) (Or.inl ⟨by rfl, ?hy6⟩) (by assumption) ?rest6
    case hy6 => (intro w hSw; (try dsimp only at hSw); go_split_ands; go_simp; try with_reducible rfl)
    try simp only [Act.put]
    refine wpAnyH_take (i := 7) (v := .pointer (some ⟨x, 3, none⟩)) rfl (by kernel_rfl) (by kernel_rfl) (by kernel_rfl) (fun _ _ _ h => h) (Or.inl ⟨by rfl, ?hy7⟩) (by assumption) ?rest7
    case hy7 => (intro w hSw; (try dsimp only at hSw); go_split_ands; go_simp; try with_reducible rfl)
    try simp only [Act.put]
    refine wpAnyH_ready (rs := [5]) (by kernel_rfl) (by simp) ?_
    refine AllReadyH.cons rfl (fun K hK => ?_) AllReadyH.nil
    go_simp
    refine (HFI.out _ (HS.out _ k0).2).mono ?_
    rintro en x1 ⟨rfl, hx1⟩
    have k1 := k0.trans (hx1.mono k0.size)
    go_wp2_with fail
    refine hK.out _ _ (HS.out _ k1).1 (fun hHeld => ?_)
    clear hK K hx1 k0
    try simp only [Act.put]
    refine wpAnyH_take (i := 8) (v := .pointer (some ⟨x, 3 + i, none⟩)) rfl (by kernel_rfl) (by kernel_rfl) (by kernel_rfl) (fun _ _ _ h => h) (Or.inl ⟨by rfl, ?hy8⟩) (by assumption) ?rest8
    case hy8 => (intro w hSw; (try dsimp only at hSw); go_split_ands; go_simp; try with_reducible rfl)
    try simp only [Act.put]
    refine wpAnyH_ready (rs := [9]) (by kernel_rfl) (by simp) ?_
    refine AllReadyH.cons rfl (fun K hK => ?_) AllReadyH.nil
    have hf1 := (HS.out _ k1).1.2.2.2.2
    obtain ⟨u, hu⟩ := (HS.out _ k1).1.2.2.2.1
    go_simp
    have hW1 := HH.out.below (HS.out _ k1).2
    have hc1 : (x1.setCell ⟨x, 3 + i, none⟩ (.int .i64 v)).cell? ⟨x, 1, none⟩ = w.cell? ⟨x, 1, none⟩ := (World.cell?_setCell_other _ _ _ _ (ne_off (by omega))).trans ((HS.out _ k1).2.cell (p := ⟨x, 1, none⟩) hx.2)
    have hc2 : (x1.setCell ⟨x, 3 + i, none⟩ (.int .i64 v)).cell? ⟨x, 2, none⟩ = some (.map (some mb)) := (World.cell?_setCell_other _ _ _ _ (ne_off (by omega))).trans hW1.k2
    have hks := Kept.set x1 x (3 + i) (.int .i64 v)
    have hbe : ∀ p, p < e + 1 → e + 1 ≤ p + 512 → p + 3 ≤ n → ∃ o, (x1.setCell ⟨x, 3 + i, none⟩ (.int .i64 v)).cell? ⟨x, 3 + p % 512, none⟩ = some (.int .i64 (ov o)) ∧ Last B (p - 511) p (st B p) o := fun p h1 h3 h4 => by
      rcases Nat.lt_or_ge p e with h5 | h5
      · obtain ⟨o, ho, hl⟩ := hW1.be p h5 (by omega) h4
        exact ⟨o, (World.cell?_setCell_other _ _ _ _ (ne_off (by have := HI.out; omega))).trans ho, hl⟩
      · obtain rfl : p = e := by omega
        refine ⟨f (st B p), ?_, ?_⟩
        · rw [HI.out, HST.out.1, HV.out]
          exact World.cell?_setCell_same _ _ _ hu
        · rw [← hlo]
          exact hW1.la _ HST.out.2
    have har : ∀ j, j < 512 → ∃ v2, (x1.setCell ⟨x, 3 + i, none⟩ (.int .i64 v)).cell? ⟨x, 3 + j, none⟩ = some (.int .i64 v2) := fun j hj => by
      by_cases hji : j = i
      · subst hji
        exact ⟨v, World.cell?_setCell_same _ _ _ hu⟩
      · obtain ⟨v2, hv2⟩ := hW1.ar j hj
        exact ⟨v2, (World.cell?_setCell_other _ _ _ _ (ne_off (by omega))).trans hv2⟩
    have hr3 : (x1.setCell ⟨x, 3 + i, none⟩ (.int .i64 v)).rangeAt bk 0 (bv [b0, b1, b2]) := fun j u hj => (World.cell?_setCell_other _ _ _ _ (ne_blk (by omega))).trans (rng_below HRG.out.1 k1 HRG.out.2 j u hj)
    have hmp := hks.map hW1.mp (by omega)
    have hk0 : Kept w (x1.setCell ⟨x, 3 + i, none⟩ (.int .i64 v)) (fun i => i = mb ∨ i = x) := ((Kept.ofBelow (HS.out _ k1).2).more (fun i hi hc => by omega)).trans hks (fun i _ hc => Or.inr hc)
    have hk00 : (x1.setCell ⟨x, 3 + i, none⟩ (.int .i64 v)).cell? ⟨x, 0, none⟩ = some (.slice A0 n c0) := (World.cell?_setCell_other _ _ _ _ (ne_off (by omega))).trans hW1.k0
    have hfz : ∀ o, (x1.setCell ⟨x, 3 + i, none⟩ (.int .i64 v)).frozen? ⟨x, o, none⟩ = false := fun o => (frozen_set _ _ _ _).trans (hW1.fz o)
    have hsh : HeldK x1 bk x i b0 b1 b2 (x1.setCell ⟨x, 3 + i, none⟩ (.int .i64 v)) := ⟨by
      have := hr3 0 _ rfl
      simpa using this, by simpa using hr3 1 _ rfl, by simpa using hr3 2 _ rfl, ⟨v, World.cell?_setCell_same _ _ _ hu⟩, hfz _⟩
    unfold HeldK at hsh
    have hxl : x < (x1.setCell ⟨x, 3 + i, none⟩ (.int .i64 v)).heap.size := by rw [World.size_setCell]; exact hW1.lt.2
    generalize x1.setCell ⟨x, 3 + i, none⟩ (.int .i64 v) = w3 at *
    obtain ⟨D, hD1, hD2⟩ := hmp.drew
    have hkey := key_of [b0, b1, b2] rfl
    simp only [bv, List.map_cons, List.map_nil] at hkey
    have HK := Lib.hid hkey
    have HD := Lib.hid (And.intro hD1 hD2)
    have HA := Lib.hid (And.intro hbe (And.intro har (And.intro hk0 (And.intro hk00 (And.intro hfz (And.intro hc1 hxl))))))
    clear hkey hD1 hD2 hbe har hk0 hk00 hfz hc1 hW1 hks hmp hf1 hu HFI HY hxl HRG
    refine hK.out _ _ hsh (fun hHeld2 => ?_)
    clear hK K hHeld hsh
    refine wpAnyH_done (by kernel_rfl) ?_ _
    clear hHeld2
    go_wp2_with fail
    refine wp_region_still_tail 6 (by kernel_rfl) (by kernel_rfl) ?_
    simp only [List.take_succ_cons, List.take_zero, List.drop_succ_cons, List.drop_zero]
    repeat still_step
    refine s_load rfl 119 (.tmp 4) rfl bk 0 rfl _ _ hr3 Tryd.underlying119 rfl info_start ?_
    simp only [bv, List.map_cons, List.map_nil]
    go_simp
    repeat still_step
    refine wpStill_nil ?_
    change wpList _ _ _ _ _ w3.drew
    refine wpList_mapUpdate_own _ rfl _ _ _ 89 rfl 119 3 startKeyed Tryd.underlying89 _ mb _ D rfl HD.out.1 (by unfold maxLen; omega) _ (.int .i64 (e : Nat)) (kl [b0, b1, b2]) rfl rfl HK.out (num e) [] (plainElem_int Tryd.underlying3 (by simp [Lit.wf, IntKind.min, IntKind.max, IntKind.signed, IntKind.bits]; omega)) ?_
    intro w5 hown5 hgr5
    go_wp2_with fail
    have k5 : Kept w3 w5 (· = mb) := (Kept.drew w3 (· = mb)).trans (Kept.of hgr5) (fun i _ hc => by injection hc with hc; exact hc.symm)
    obtain ⟨hbe, har, hk0, hk00, hfz, hc1, hxl⟩ := HA.out
    have hxm : ¬ x = mb := by omega
    refine ⟨rfl, _, results_none rfl _ _ _, rfl, updF f [b0, b1, b2] (some e), ⟨(k5.cell (a := ⟨x, 0, none⟩) hxl hxm).trans hk00, (k5.cell (a := ⟨x, 2, none⟩) hxl hxm).trans hc2, (hk0.trans k5 (fun i _ hc => Or.inl hc)).rd HH.out.rd (by omega) (fun i _ hi hc => by omega), HH.out.nc, ⟨_, hown5, HD.out.2.put rfl e⟩, fun j hj => ?_, fun p h1 h3 h4 => ?_, ?_, fun o => (k5.frozen (a := ⟨x, o, none⟩) hxl hxm).trans (hfz o), hx.1, Nat.lt_of_lt_of_le hxl k5.size⟩, hk0.trans k5 (fun i _ hc => Or.inl hc), (k5.cell (a := ⟨x, 1, none⟩) hxl hxm).trans hc1⟩
    · obtain ⟨v2, hv2⟩ := har j hj
      exact ⟨v2, (k5.cell (a := ⟨x, 3 + j, none⟩) hxl hxm).trans hv2⟩
    · obtain ⟨o, ho, hl⟩ := hbe p h1 h3 h4
      exact ⟨o, (k5.cell (a := ⟨x, 3 + p % 512, none⟩) hxl hxm).trans ho, hl⟩
    · have := last_learn HH.out.la (by omega)
      rw [HST.out.1] at this
      rw [← hlo]
      exact this
end Go.Proofs.YtbcgnacfhpahkaaDoor.lz
