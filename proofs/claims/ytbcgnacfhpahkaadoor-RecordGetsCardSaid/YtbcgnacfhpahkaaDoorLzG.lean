/- lz: the longest stretch. -/
import Derived.Test.YtbcgnacfhpahkaaDoorLzF
import Derived.Lib.MinMax
namespace Go.Proofs.YtbcgnacfhpahkaaDoor.lz
set_option maxRecDepth 20000
open Go.RowKit Mem OM LM oct
open Go.Maps (Keyed)
set_option linter.unusedVariables false
attribute [local go_sem] Oper.semAt_some
variable {w w' : World} {x mb n c0 lo e : Nat} {A0 : Option Addr} {B : List UInt8} {f : List UInt8 → Option Nat}
/-- how far the search has come: m ways back have been looked at, the next place is at -/
def LState (B : List UInt8) (e : Nat) (at_ : Int) (m : Nat) : Prop := m ≤ min 512 e ∧ ((∃ p : Nat, at_ = (p : Nat) ∧ p + (m + 1) = e ∧ m + 1 ≤ 512 ∧ st B p = st B e) ∨ (at_ < ((e - 512 : Nat) : Int) ∧ m = min 512 e))
theorem chain {p : Nat} {o : Option Nat} (hp : p ≤ e) (h5 : e ≤ p + 512) (hN : 3 ≤ B.length - e) (hs : st B p = st B e) (hl : Last B lo p (st B p) o) (hlo : lo ≤ e - 512) : ∃ m, LState B e (ov o) m ∧ worth (best B e m) = worth (best B e (e - p)) := by
  have key : ∀ j, j ≤ e → st B (e - j) ≠ st B e → ali B e j < 3 := fun j hj hne => by
    rcases Nat.lt_or_ge (ali B e j) 3 with h | h
    · exact h
    · exact absurd ((ali_alike B e j hj hN).2 h) hne
  cases o with
  | some q =>
    obtain ⟨k1, k2, k3, k4⟩ := hl
    by_cases hq : e - 512 ≤ q
    · refine ⟨e - q - 1, ⟨by omega, Or.inl ⟨q, rfl, by omega, by omega, k3.trans hs⟩⟩, ?_⟩
      have := worth_skip B e (e - p) (p - q - 1) (fun j h1 h2 => key j (by omega) (by rw [← hs]; exact k4 _ (by omega) (by omega)))
      rwa [show e - p + (p - q - 1) = e - q - 1 by omega] at this
    · refine ⟨min 512 e, ⟨Nat.le_refl _, Or.inr ⟨by simp only [ov]; omega, rfl⟩⟩, ?_⟩
      have := worth_skip B e (e - p) (min 512 e - (e - p)) (fun j h1 h2 => key j (by omega) (by rw [← hs]; exact k4 _ (by omega) (by omega)))
      rwa [show e - p + (min 512 e - (e - p)) = min 512 e by omega] at this
  | none =>
    refine ⟨min 512 e, ⟨Nat.le_refl _, Or.inr ⟨by simp only [ov]; omega, rfl⟩⟩, ?_⟩
    have := worth_skip B e (e - p) (min 512 e - (e - p)) (fun j h1 h2 => key j (by omega) (by rw [← hs]; exact hl _ (by omega) (by omega)))
    rwa [show e - p + (min 512 e - (e - p)) = min 512 e by omega] at this
theorem longest_short (h : B.length < e + 3) : longest B e = (0, 0) := by
  have h1 := best_len B e (min 512 e)
  rw [nxt_len] at h1
  unfold longest worth
  rw [if_pos (by omega)]
theorem longest_full {m : Nat} (hm : m ≤ min 512 e) (h0 : e < B.length) (h : (nxt B e).length ≤ (worth (best B e m)).1) : longest B e = worth (best B e m) := by
  have h1 := best_len B e m
  have h2 : (worth (best B e m)).1 ≤ (best B e m).1 := by
    unfold worth
    split
    · exact Nat.zero_le _
    · exact Nat.le_refl _
  have := worth_full B e m (by omega) (by rw [nxt_len]; omega) (min 512 e - m)
  rw [show m + (min 512 e - m) = min 512 e by omega] at this
  exact this
set_option maxRecDepth 20000 in
set_option maxHeartbeats 2000000 in
theorem longest_any (w : World) (h : Win w x mb n c0 A0 B (e - 512) e f) (h1 : w.cell? ⟨x, 1, none⟩ = some (.int .i64 (e : Nat))) (he : e < n) :
    Calls Tryd.prog 57 #[.pointer (some ⟨x, 0, none⟩)] w fun en w' => en = .returned (.tuple #[.int .i64 ((longest B e).1 : Nat), .int .i64 ((longest B e).2 : Nat)]) ∧ Below w.heap.size w w' := by
  have hl := h.len
  have HH := Lib.hid h
  have hnc := h.nc
  by_cases hs : n < e + 3
  · have hno := start_no e w h (by omega) hs
    have HNO := Lib.hid hno
    rw [longest_short (by omega)]
    clear h hno
    go_enter Tryd.func57, Tryd.ntmps57
    go_wp2_with (go_at_call 77; refine (HNO.out).mono ?_; rintro en w1 ⟨rfl, hb1⟩)
    go_ret2
    exact ⟨rfl, hb1.alloc hb1.size _⟩
  · have hyes := start_yes e w h (by omega) (by omega)
    have hsl : (st B e).length = 3 := by rw [st_len, hl]; omega
    obtain ⟨b0, b1, b2, hst⟩ := three hsl
    have hfind := fun y (hy : Below w.heap.size w y) => find_w (st B e) y (h.below hy) hsl
    have hx := h.lt
    rw [hst] at hyes
    simp only [hst, bv, List.map_cons, List.map_nil] at hfind hyes
    have HY := Lib.hid hyes
    have HFI := Lib.hid hfind
    have HST := Lib.hid (And.intro hst hsl)
    obtain ⟨v, hv⟩ : ∃ v, ov (f [b0, b1, b2]) = v := ⟨_, rfl⟩
    rw [hv] at HFI
    have HV := Lib.hid hv
    obtain ⟨g, off, hA, hg, hcells⟩ := h.rd.addr (by omega)
    subst hA
    have h0 := h.k0
    clear h hyes hfind hsl hst hv
    go_enter Tryd.func57, Tryd.ntmps57
    go_wp2_with (go_at_call 77; refine (HY.out).mono ?_; rintro en w1 ⟨rfl, hb1⟩)
    have hb2 : Below w.heap.size w (w1.alloc (.cells #[.int .u8 (b0.toNat : Int), .int .u8 (b1.toNat : Int), .int .u8 (b2.toNat : Int)] 119)) := hb1.alloc hb1.size _
    have hrg := alloc_rng w1 b0 b1 b2 119
    generalize w1.alloc (.cells #[.int .u8 (b0.toNat : Int), .int .u8 (b1.toNat : Int), .int .u8 (b2.toNat : Int)] 119) = w2 at *
    obtain ⟨bk, hbk⟩ : ∃ bk, w1.heap.size = bk := ⟨_, rfl⟩
    rw [hbk] at hrg ⊢
    have r0 : w2.cell? ⟨bk, 0, none⟩ = some (.int .u8 (b0.toNat : Int)) := by simpa using hrg 0 _ rfl
    have r1 : w2.cell? ⟨bk, 1, none⟩ = some (.int .u8 (b1.toNat : Int)) := by simpa using hrg 1 _ rfl
    have r2 : w2.cell? ⟨bk, 2, none⟩ = some (.int .u8 (b2.toNat : Int)) := by simpa using hrg 2 _ rfl
    have s0 : w2.cell? ⟨x, 0, none⟩ = some (.slice (some ⟨g, off, none⟩) n c0) := (hb2.cell (p := ⟨x, 0, none⟩) hx.2).trans h0
    have s1 : w2.cell? ⟨x, 1, none⟩ = some (.int .i64 (e : Nat)) := (hb2.cell (p := ⟨x, 1, none⟩) hx.2).trans h1
    obtain ⟨M, hM⟩ : ∃ M, min 66 (n - e) = M := ⟨_, rfl⟩
    have hmin : min ((e : Int) + 66) (n : Int) = ((e + M : Nat) : Int) := by omega
    have hmax : max (0 : Int) ((e : Int) - 512) = ((e - 512 : Nat) : Int) := by omega
    have hMn : e + M ≤ n := by omega
    have hne : ¬ c0 = e := by omega
    have HM := Lib.hid hM
    have HB2 := Lib.hid hb2
    clear hbk hrg hb1 hb2 hM h0 h1
    go_wp2_with fail
    refine wp_region_quiet_lit (by kernel_rfl) (by kernel_rfl) ?_
    repeat (go_big_quiet_step (fail))
    refine wpQuiet_nil ?_
    rw [Nat.add_sub_cancel_left]
    rintro _ ⟨nq, rfl⟩
    replace r0 : (w2.drewN nq).cell? ⟨bk, 0, none⟩ = some (.int .u8 (b0.toNat : Int)) := r0
    replace r1 : (w2.drewN nq).cell? ⟨bk, 1, none⟩ = some (.int .u8 (b1.toNat : Int)) := r1
    replace r2 : (w2.drewN nq).cell? ⟨bk, 2, none⟩ = some (.int .u8 (b2.toNat : Int)) := r2
    replace s0 : (w2.drewN nq).cell? ⟨x, 0, none⟩ = some (.slice (some ⟨g, off, none⟩) n c0) := s0
    replace s1 : (w2.drewN nq).cell? ⟨x, 1, none⟩ = some (.int .i64 (e : Nat)) := s1
    replace HB2 : Hid (Below w.heap.size w (w2.drewN nq)) := Lib.hid (below_drewN HB2.out nq)
    generalize w2.drewN nq = w3 at *
    go_wp2_with fail
    refine (HFI.out _ HB2.out).mono ?_
    rintro en w4 ⟨rfl, hb4⟩
    have hb4w : Below w.heap.size w w4 := HB2.out.trans (hb4.mono HB2.out.size)
    have hW4 := HH.out.below hb4w
    have s0 : w4.cell? ⟨x, 0, none⟩ = some (.slice (some ⟨g, off, none⟩) n c0) := hW4.k0
    have s1 : w4.cell? ⟨x, 1, none⟩ = some (.int .i64 (e : Nat)) := (hb4.cell (p := ⟨x, 1, none⟩) (Nat.lt_of_lt_of_le hx.2 HB2.out.size)).trans s1
    have hrdN : Rd w4 mb (some ⟨g, off + e, none⟩) M (bv (nxt B e)) := by
      have := hW4.rd.cut (l := e) (m := M) hMn (A' := some ⟨g, off + e, none⟩) (fun _ => by simp [Addr.add_lit])
      have hM2 := HM.out
      rw [← bv_drop, ← bv_take] at this
      have e1 : (B.drop e).take M = nxt B e := by
        unfold nxt
        rcases Nat.lt_or_ge (n - e) 66 with h | h
        · rw [List.take_of_length_le (by rw [List.length_drop]; omega), List.take_of_length_le (by rw [List.length_drop]; omega)]
        · rw [show M = 66 by omega]
      rwa [e1] at this
    have hla := HH.out.la _ HST.out.2
    obtain ⟨m0, hm1, hm2⟩ := chain (p := e) (lo := e - 512) (Nat.le_refl _) (by omega) (by omega) rfl hla (Nat.le_refl _)
    rw [HST.out.1, HV.out] at hm1
    rw [Nat.sub_self] at hm2
    have HL0 := Lib.hid (And.intro hm1 (And.intro hm2 (by show worth (best B e 0) = (0, 0); rfl)))
    have HC0 : Hid (Win w4 x mb n c0 (some ⟨g, off, none⟩) B (e - 512) e f ∧ Rd w4 mb (some ⟨g, off + e, none⟩) M (bv (nxt B e)) ∧ Below w.heap.size w w4 ∧ w4.cell? ⟨x, 1, none⟩ = some (.int .i64 (e : Nat))) := Lib.hid ⟨hW4, hrdN, hb4w, s1⟩
    have hge : (0 : Int) ≤ ((e - 512 : Nat) : Int) := by omega
    obtain ⟨far, hfar⟩ : ∃ far, e - 512 = far := ⟨_, rfl⟩
    rw [hfar] at hmax hge ⊢
    have HF := Lib.hid hfar
    clear hm1 hm2 hla hW4 hrdN hb4w hb4 r0 r1 r2 s0 s1 HFI HY hcells hmin hfar
    go_wp2_with fail
    go_loopw [2, 3, 8] (fun n2 n3 a8 wr => Hid (Win wr x mb n c0 (some ⟨g, off, none⟩) B (e - 512) e f ∧ Rd wr mb (some ⟨g, off + e, none⟩) M (bv (nxt B e)) ∧ Below w.heap.size w wr ∧ wr.cell? ⟨x, 1, none⟩ = some (.int .i64 (e : Nat))) ∧ ∃ (m N1 N2 : Nat) (v' : Int), n2 = .int .i64 (N1 : Nat) ∧ n3 = .int .i64 (N2 : Nat) ∧ a8 = .int .i64 v' ∧ Hid (worth (best B e m) = (N1, N2)) ∧ Hid (LState B e v' m)) (fun _ _ a8 _ => (intOf a8 + 1).toNat)
    case atStart => exact ⟨HC0, m0, 0, 0, v, rfl, rfl, rfl, Lib.hid (by rw [HL0.out.2.1, HL0.out.2.2]), Lib.hid HL0.out.1⟩
    case round =>
      clear HL0 HC0
      obtain ⟨HC, m, N1, N2, v', rfl, rfl, rfl, HB, HS⟩ := hrel
      have s0 := HC.out.1.k0
      have s1 := HC.out.2.2.2
      rcases HS.out with ⟨hm, ⟨p, rfl, hp1, hp2, hp3⟩ | ⟨hv, hm2⟩⟩
      · have hq1 : (far : Int) ≤ (p : Int) := by have := HF.out; omega
        have HP := Lib.hid (And.intro hp1 (And.intro hp2 (And.intro hp3 hm)))
        have hpe : p < e := by omega
        by_cases hN : N1 < M
        · have hNi : (N1 : Int) < (M : Int) := by omega
          have hnp : ¬ c0 = p := by omega
          have hpn : (p : Int) ≤ (n : Int) := by omega
          have hrdp : Rd wr mb (some ⟨g, off + p, none⟩) (n - p) (bv (B.drop p)) := by
            have := HC.out.1.rd.cut (l := p) (m := n - p) (by omega) (A' := some ⟨g, off + p, none⟩) (fun _ => by simp [Addr.add_lit])
            rw [← bv_drop, ← bv_take, List.take_of_length_le (by rw [List.length_drop]; omega)] at this
            exact this
          obtain ⟨o, ho, hlo⟩ := HC.out.1.be p hpe (by omega) (by omega)
          have hali := alike_any (some ⟨g, off + p, none⟩) (some ⟨g, off + e, none⟩) (n - p) (c0 - p) M (c0 - e) mb (B.drop p) (nxt B e) wr hrdp HC.out.2.1 (by omega) (by omega)
          obtain ⟨m2, hc1, hc2⟩ := chain (p := p) (e := e) (B := B) (Nat.le_of_lt hpe) (by omega) (by omega) hp3 hlo (by omega)
          have hkk : com (B.drop p) (nxt B e) = ali B e (m + 1) := by unfold ali; rw [show e - (m + 1) = p by omega]
          have h3 : 3 ≤ ali B e (m + 1) := (ali_alike B e (m + 1) (by omega) (by omega)).1 (by rw [show e - (m + 1) = p by omega]; exact hp3)
          have hst := worth_step B e m h3
          rw [HB.out] at hst
          rw [show e - p = m + 1 by omega, hst] at hc2
          rw [hkk] at hali
          obtain ⟨kk, hkk2⟩ : ∃ kk, ali B e (m + 1) = kk := ⟨_, rfl⟩
          rw [hkk2] at hali hc2
          obtain ⟨i, hi⟩ : ∃ i, p % 512 = i := ⟨_, rfl⟩
          rw [hi] at ho
          have hmod : (p : Int).tmod 512 = (i : Int) := by rw [Int.tmod_eq_emod_of_nonneg (by omega)]; omega
          have hi6 : (i : Int) < 512 := by omega
          have hi7 : (0 : Int) ≤ (i : Int) := by omega
          have hdec : ov o < (p : Int) := by
            cases o with
            | none => simp only [ov]; omega
            | some q => simp only [ov]; have := hlo.2.1; omega
          obtain ⟨v2, hv2⟩ : ∃ v2, ov o = v2 := ⟨_, rfl⟩
          rw [hv2] at ho hdec hc1
          have hep : (e : Int) - (p : Int) = ((m + 1 : Nat) : Int) := by omega
          have HALI := Lib.hid hali
          have HC2 := Lib.hid hc2
          have HC1 := Lib.hid hc1
          have HDEC := Lib.hid hdec
          clear hrdp hali hc2 hc1 hkk hst hkk2 hi hlo hv2 h3 hdec hp1 hm
          by_cases hk : N1 < kk
          · have hki : (N1 : Int) < (kk : Int) := by omega
            go_wp2_with (go_at_call 79; refine (HALI.out).mono ?_; rintro en w' ⟨rfl, rfl⟩)
            refine wp_region_quiet_lit (by kernel_rfl) (by kernel_rfl) ?_
            repeat (go_big_quiet_step (fail))
            refine wpQuiet_nil ?_
            rintro _ ⟨nq, rfl⟩
            replace HC : Hid (Win (w'.drewN nq) x mb n c0 (some ⟨g, off, none⟩) B (e - 512) e f ∧ Rd (w'.drewN nq) mb (some ⟨g, off + e, none⟩) M (bv (nxt B e)) ∧ Below w.heap.size w (w'.drewN nq) ∧ (w'.drewN nq).cell? ⟨x, 1, none⟩ = some (.int .i64 (e : Nat))) := Lib.hid ⟨HC.out.1.kept (Kept.drewN w' nq (fun _ => False)) (fun _ _ => id), HC.out.2.1.drewN nq, below_drewN HC.out.2.2.1 nq, HC.out.2.2.2⟩
            replace ho : (w'.drewN nq).cell? ⟨x, 3 + i, none⟩ = some (.int .i64 v2) := ho
            clear s0 s1 HALI
            generalize w'.drewN nq = w6 at *
            go_wp2_with fail
            go_roundw
            case rel => exact ⟨HC, m2, kk, m + 1, v2, rfl, by go_num, rfl, Lib.hid (by rw [HC2.out, if_pos hk]), HC1⟩
            case measure =>
              have := HDEC.out
              simp only [intOf]
              omega
          · have hki : ¬ (N1 : Int) < (kk : Int) := by omega
            go_wp2_with (go_at_call 79; refine (HALI.out).mono ?_; rintro en w' ⟨rfl, rfl⟩)
            go_roundw
            case rel => exact ⟨HC, m2, N1, N2, v2, rfl, rfl, rfl, Lib.hid (by rw [HC2.out, if_neg hk]), HC1⟩
            case measure =>
              have := HDEC.out
              simp only [intOf]
              omega
        · have hNi : ¬ (N1 : Int) < (M : Int) := by omega
          have hlf := longest_full hm (by omega) (by rw [HB.out, nxt_len]; have := HM.out; simp only; omega : (nxt B e).length ≤ (worth (best B e m)).1)
          have HLF := Lib.hid (hlf.trans HB.out)
          clear hlf
          go_wp2_with fail
          go_ret2
          rw [HLF.out]
          exact ⟨rfl, HC.out.2.2.1⟩
      · have hq1 : ¬ (far : Int) ≤ v' := by have := HF.out; omega
        have HLF : Hid (longest B e = (N1, N2)) := Lib.hid (by unfold longest; rw [← hm2]; exact HB.out)
        clear hm hm2 hv
        go_wp2_with fail
        go_ret2
        rw [HLF.out]
        exact ⟨rfl, HC.out.2.2.1⟩
end Go.Proofs.YtbcgnacfhpahkaaDoor.lz
