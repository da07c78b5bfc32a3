/- lz: the document's Restore. -/
import Derived.Test.YtbcgnacfhpahkaaDoorLzO
import Derived.Test.YtbcgnacfhpahkaaDoorLzMath2
namespace Go.Proofs.YtbcgnacfhpahkaaDoor.lz
open Go.RowKit Mem OM LM oct
set_option linter.unusedVariables false
attribute [local go_sem] Oper.semAt_some
theorem lk_small (l : List UInt8) : (lk l).1 ≤ 9223372036854775807 ∧ (lk l).2.1 ≤ l.length ∧ (lk l).2.2 ≤ 20 := by
  rcases look_err (l := l) with h | ⟨h, h2⟩
  · have e : lk l = ((lk l).1, (lk l).2.1, 0) := by rw [← h]
    obtain ⟨_, _, h3, h4⟩ := look_ok e
    exact ⟨h4, h3, by omega⟩
  · rw [h]
    exact ⟨by simp, by simp, by simp only; omega⟩
theorem headR_short {x : UInt8} {t : List UInt8} {there : Nat} (h : x.toNat < 128) (h2 : t.length < x.toNat + 1) : headR x t there = (0, 0, 0, 2) := by
  unfold headR; rw [if_pos h, if_pos h2]
theorem headR_lit {x : UInt8} {t : List UInt8} {there : Nat} (h : x.toNat < 128) (h2 : ¬ t.length < x.toNat + 1) : headR x t there = (x.toNat + 1, 0, 0, 0) := by
  unfold headR; rw [if_pos h, if_neg h2]
theorem headR_two {x : UInt8} {t : List UInt8} {there bk sz : Nat} (h : ¬ x.toNat < 128) (hlk : lk t = (bk, sz, 2)) : (headR x t there).2.2.2 = 2 := by
  have e : inR t 1 ((min 512 there : Nat) : Int) = (bk, sz, 2) := by unfold inR; rw [hlk]; simp
  unfold headR; rw [if_neg h, e, if_pos rfl]
theorem headR_bad2 {x : UInt8} {t : List UInt8} {there bk sz er : Nat} (h : ¬ x.toNat < 128) (hlk : lk t = (bk, sz, er)) (h2 : er ≠ 2) (hb : er ≠ 0 ∨ 191 < x.toNat ∨ bk < 1 ∨ 512 < bk ∨ there < bk) : (headR x t there).2.2.2 = 70 := by
  unfold headR
  rw [if_neg h]
  by_cases he : er = 0 ∧ ((bk : Int) < 1 ∨ ((min 512 there : Nat) : Int) < (bk : Int))
  · have e : inR t 1 ((min 512 there : Nat) : Int) = (0, 0, 5) := by unfold inR; rw [hlk]; rw [if_pos he]
    rw [e, if_neg (by simp), if_pos (Or.inl (by simp))]
  · have e : inR t 1 ((min 512 there : Nat) : Int) = (bk, sz, er) := by unfold inR; rw [hlk]; rw [if_neg he]
    rw [e, if_neg h2, if_pos (by simp only; omega)]
theorem headR_good {x : UInt8} {t : List UInt8} {there bk sz : Nat} (h : ¬ x.toNat < 128) (hlk : lk t = (bk, sz, 0)) (hx : x.toNat ≤ 191) (h1 : 1 ≤ bk) (h2 : bk ≤ 512) (h3 : bk ≤ there) : headR x t there = (x.toNat - 125, bk, sz, 0) := by
  have e : inR t 1 ((min 512 there : Nat) : Int) = (bk, sz, 0) := by unfold inR; rw [hlk]; rw [if_neg (by simp only; omega)]
  unfold headR; rw [if_neg h, e, if_neg (by simp), if_neg (by simp only; omega)]
/-- within the document's Restore: what is left, what is out -/
structure Rest2 (w wr : World) (l : List UInt8) (A : Option Addr) (N c at_ : Nat) (out : List UInt8) (most : Int) (res : List UInt8 × Nat) : Prop where
  below : Below w.heap.size w wr
  own : Ow wr w.heap.size 5 A N c (bv out)
  eq : re most (l.drop at_) out = res
  few : out.length ≤ 128 * at_
theorem Rest2.len {w wr : World} {l : List UInt8} {N c at_ : Nat} {A : Option Addr} {out : List UInt8} {most : Int} {res : List UInt8 × Nat} (h : Rest2 w wr l A N c at_ out most res) : out.length = N := by
  have := h.own.len
  rwa [bv_len] at this
def RePost2 (l : List UInt8) (most : Int) (w : World) (e : Ending) (w' : World) : Prop := ∃ A N c, e = .returned (.tuple #[.slice A N c, .int .i64 ((reB l most).2 : Nat)]) ∧ Ow w' w.heap.size 5 A N c (bv (reB l most).1) ∧ Below w.heap.size w w'
set_option maxRecDepth 100000 in
set_option maxHeartbeats 4000000 in
theorem refRestore_any (A0 : Option Addr) (n c0 B0 : Nat) (l : List UInt8) (most : Int) (w : World) (h : Rd w B0 A0 n (bv l)) (hB : B0 ≤ w.heap.size) (hc0 : n ≤ c0) (hn : n ≤ 1048576) (hm : -9223372036854775808 ≤ most ∧ most ≤ 9223372036854775807) :
    Calls Tryd.prog 40 #[.slice A0 n c0, .int .i64 most] w (RePost2 l most w) := by
  have hl : l.length = n := by rw [← h.len, bv_len]
  unfold RePost2
  rw [reB_re]
  obtain ⟨RES, hRES⟩ : ∃ RES, re most l [] = RES := ⟨_, rfl⟩
  rw [hRES]
  have HRES := Lib.hid hRES
  have HL := Lib.hid hl
  have HH := Lib.hid h
  clear hRES hl h
  go_enter Tryd.func40, Tryd.ntmps40
  go_wp2_with fail
  have HR0 := Lib.hid (show Rest2 w w l none 0 0 0 [] most RES from ⟨Below.refl _ _, Ow.nil _ _ _, HRES.out, by simp⟩)
  clear HRES
  go_loopw [4, 5, 6, 7] (fun r4 r5 s a7 wr => r4 = .slice none 0 0 ∧ r5 = .int .i64 0 ∧ ∃ (A : Option Addr) (N c at_ : Nat) (out : List UInt8), s = .slice A N c ∧ a7 = .int .i64 (at_ : Nat) ∧ at_ ≤ n ∧ Hid (Rest2 w wr l A N c at_ out most RES)) (fun _ _ _ a7 _ => n - (intOf a7).toNat)
  case atStart => exact ⟨rfl, rfl, none, 0, 0, 0, [], rfl, rfl, Nat.zero_le _, HR0⟩
  case round =>
    clear HR0
    obtain ⟨rfl, rfl, A, N, c, at_, out, rfl, rfl, hatn, HR⟩ := hrel
    have hlen := HR.out.len
    have hfew := HR.out.few
    by_cases hat : at_ < n
    · have hati : (at_ : Int) < (n : Int) := by omega
      obtain ⟨b1, o1, rfl, hb1, hc1⟩ := (HH.out.below HR.out.below hB).at_ hat
      have hatl : at_ < l.length := by rw [HL.out]; exact hat
      rw [bv_at l at_ hatl] at hc1
      have hdr : l.drop at_ = l[at_] :: l.drop (at_ + 1) := List.drop_eq_getElem_cons hatl
      have htl : (l.drop (at_ + 1)).length = n - (at_ + 1) := by rw [List.length_drop, HL.out]
      have heq := HR.out.eq
      rw [hdr] at heq
      obtain ⟨t, ht⟩ : ∃ t, l.drop (at_ + 1) = t := ⟨_, rfl⟩
      obtain ⟨x, hx⟩ : ∃ x, l[at_] = x := ⟨_, rfl⟩
      rw [ht] at heq htl
      rw [hx] at heq hc1
      have HT := Lib.hid ht
      obtain ⟨X, hX⟩ : ∃ X, x.toNat = X := ⟨_, rfl⟩
      have hX8 : X < 256 := by rw [← hX]; exact x.toNat_lt
      rw [hX] at hc1
      have hN : N ≤ 134217728 := by omega
      have hfew2 : N ≤ 128 * at_ := by omega
      have HHW := Lib.hid (HH.out.below HR.out.below hB)
      have hsz := HR.out.below.size
      clear hdr hx ht hatl
      by_cases h128 : X < 128
      · have h128i : (X : Int) < 128 := by omega
        by_cases hsh : t.length < X + 1
        · have he := re_bad (most := most) (x := x) (t := t) (out := out) (by rw [headR_short (by omega) (by omega)]; simp)
          rw [heq, headR_short (by omega) (by omega)] at he
          have hshi : (n : Int) - ((at_ : Int) + 1) < (X : Int) + 1 := by omega
          have HE := Lib.hid he
          clear he heq hlen hfew hX
          go_wp2_with fail
          go_ret2
          rw [HE.out]
          exact ⟨none, 0, 0, rfl, Ow.nil _ _ _, HR.out.below⟩
        · have hshi : ¬ (n : Int) - ((at_ : Int) + 1) < (X : Int) + 1 := by omega
          by_cases hm1 : most < (X : Int) + 1
          · have he := re_cap (most := most) (x := x) (t := t) (out := out) (by rw [headR_lit (by omega) (by omega)]) (by rw [headR_lit (by omega) (by omega), hlen]; simp only; omega)
            rw [heq] at he
            have HE := Lib.hid he
            clear he heq hlen hfew hX
            go_wp2_with fail
            go_ret2
            rw [HE.out]
            exact ⟨none, 0, 0, rfl, Ow.nil _ _ _, HR.out.below⟩
          · by_cases hm2 : most - (X : Int) - 1 < (N : Int)
            · have he := re_cap (most := most) (x := x) (t := t) (out := out) (by rw [headR_lit (by omega) (by omega)]) (by rw [headR_lit (by omega) (by omega), hlen]; simp only; omega)
              rw [heq] at he
              have HE := Lib.hid he
              clear he heq hlen hfew hX
              go_wp2_with fail
              go_ret2
              rw [HE.out]
              exact ⟨none, 0, 0, rfl, Ow.nil _ _ _, HR.out.below⟩
            · have he := re_lit (most := most) (x := x) (t := t) (out := out) (by omega) (by omega) (by omega)
              rw [heq, hX] at he
              have hlk : (X + 1) ≤ t.length := by omega
              have HLK := Lib.hid (And.intro he (And.intro hlk hlen))
              have hX1 : at_ + (X + 2) ≤ n := by omega
              clear he hlk heq hlen hfew hX
              go_wp2_with (first
                | (refine wp_cut_lh u8ty rfl (.tmp 46) (.tmp 47) (.tmp 51) rfl rfl rfl rfl HHW.out (by omega) (by omega) (by omega) hc0 ?_; intro A5 n5 c5 hn5 hc5 h5; have hn5' : n5 = X + 1 := (by omega); subst hn5'; rw [show ((at_ : Int) + 1).toNat = at_ + 1 by omega, ← bv_drop, HT.out, ← bv_take] at h5; have H5 := Lib.hid h5; clear h5 hn5)
                | (at_builtin; refine wp_app u8ty rfl (.tmp 45) (.tmp 52) rfl rfl rfl HR.out.own H5.out (bv_one _) (by omega) (by omega) hsz ?_; intro A3 N3 c3 w4 ho4 hN4 hb4 hg4; have hl4 := ho4.len; clear hg4)
                | fail)
              go_roundw
              case rel =>
                rw [← bv_app] at ho4
                rw [List.length_append, bv_len, bv_len, List.length_take, HLK.out.2.2] at hl4
                refine ⟨rfl, rfl, A3, N3, c3, at_ + 1 + (X + 1), out ++ t.take (X + 1), rfl, by go_num, by omega, Lib.hid ⟨HR.out.below.trans hb4, ho4, ?_, ?_⟩⟩
                · rw [← List.drop_drop, HT.out]
                  exact HLK.out.1.symm
                · rw [List.length_append, List.length_take, HLK.out.2.2]
                  omega
              case measure => simp only [intOf]; omega
      · have h128i : ¬ (X : Int) < 128 := by omega
        obtain ⟨bk, hbk⟩ : ∃ bk, (lk t).1 = bk := ⟨_, rfl⟩
        obtain ⟨sz, hsz2⟩ : ∃ sz, (lk t).2.1 = sz := ⟨_, rfl⟩
        obtain ⟨er, her⟩ : ∃ er, (lk t).2.2 = er := ⟨_, rfl⟩
        have hlkt : lk t = (bk, sz, er) := by rw [← hbk, ← hsz2, ← her]
        have HK := Lib.hid (And.intro hbk (And.intro hsz2 her))
        have hlkb : bk ≤ 9223372036854775807 ∧ sz ≤ t.length ∧ er ≤ 20 := by have := lk_small t; rwa [hlkt] at this
        have hx128 : ¬ x.toNat < 128 := by omega
        clear hbk hsz2 her
        by_cases e2 : er = 2
        · subst e2
          skip
          have he := re_bad (most := most) (x := x) (t := t) (out := out) (by rw [headR_two hx128 hlkt]; simp)
          rw [heq, headR_two hx128 hlkt] at he
          have HE := Lib.hid he
          clear he heq hlen hfew hX hx128 hlkt
          go_wp2_with (first
            | (refine wp_cut_l u8ty rfl (.tmp 59) (.tmp 60) rfl rfl rfl HHW.out (by omega) (by omega) hc0 ?_; intro A' n' c' hn' hc' h2' hA'; have hnn : n' = n - (at_ + 1) := (by omega); subst hnn; have hcc : n - (at_ + 1) ≤ c' := (by omega); rw [show ((at_ : Int) + 1).toNat = at_ + 1 by omega, ← bv_drop, HT.out] at h2'; have H2 := Lib.hid h2'; clear h2' hn' hA')
            | (go_at_call 64; refine (refLook_any A' (n - (at_ + 1)) c' B0 t _ H2.out (Nat.le_trans hB hsz) hcc (by omega)).mono ?_; rintro e w2 ⟨rfl, hb2⟩; rw [HK.out.1, HK.out.2.1, HK.out.2.2]; have HB2 := Lib.hid (And.intro (HR.out.below.trans (hb2.mono hsz)) hb2); clear hb2 H2)
            | fail)
          go_ret2
          rw [HE.out]
          exact ⟨none, 0, 0, rfl, Ow.nil _ _ _, HB2.out.1⟩
        · have e2i : ¬ (er : Int) = 2 := by omega
          by_cases e0 : er = 0
          · subst e0
            by_cases g1 : 191 < X
            · have g1i : (191 : Int) < (X : Int) := by omega
              skip
              have he := re_bad (most := most) (x := x) (t := t) (out := out) (by rw [headR_bad2 hx128 hlkt (by omega) (by rw [hlen, hX]; omega)]; simp)
              rw [heq, headR_bad2 hx128 hlkt (by omega) (by rw [hlen, hX]; omega)] at he
              have HE := Lib.hid he
              clear he heq hlen hfew hX hx128 hlkt
              go_wp2_with (first
                | (refine wp_cut_l u8ty rfl (.tmp 59) (.tmp 60) rfl rfl rfl HHW.out (by omega) (by omega) hc0 ?_; intro A' n' c' hn' hc' h2' hA'; have hnn : n' = n - (at_ + 1) := (by omega); subst hnn; have hcc : n - (at_ + 1) ≤ c' := (by omega); rw [show ((at_ : Int) + 1).toNat = at_ + 1 by omega, ← bv_drop, HT.out] at h2'; have H2 := Lib.hid h2'; clear h2' hn' hA')
                | (go_at_call 64; refine (refLook_any A' (n - (at_ + 1)) c' B0 t _ H2.out (Nat.le_trans hB hsz) hcc (by omega)).mono ?_; rintro e w2 ⟨rfl, hb2⟩; rw [HK.out.1, HK.out.2.1, HK.out.2.2]; have HB2 := Lib.hid (And.intro (HR.out.below.trans (hb2.mono hsz)) hb2); clear hb2 H2)
                | fail)
              go_ret2
              rw [HE.out]
              exact ⟨none, 0, 0, rfl, Ow.nil _ _ _, HB2.out.1⟩
            · have g1i : ¬ (191 : Int) < (X : Int) := by omega
              by_cases g2 : bk < 1
              · have g2i : (bk : Int) < 1 := by omega
                skip
                have he := re_bad (most := most) (x := x) (t := t) (out := out) (by rw [headR_bad2 hx128 hlkt (by omega) (by rw [hlen, hX]; omega)]; simp)
                rw [heq, headR_bad2 hx128 hlkt (by omega) (by rw [hlen, hX]; omega)] at he
                have HE := Lib.hid he
                clear he heq hlen hfew hX hx128 hlkt
                go_wp2_with (first
                  | (refine wp_cut_l u8ty rfl (.tmp 59) (.tmp 60) rfl rfl rfl HHW.out (by omega) (by omega) hc0 ?_; intro A' n' c' hn' hc' h2' hA'; have hnn : n' = n - (at_ + 1) := (by omega); subst hnn; have hcc : n - (at_ + 1) ≤ c' := (by omega); rw [show ((at_ : Int) + 1).toNat = at_ + 1 by omega, ← bv_drop, HT.out] at h2'; have H2 := Lib.hid h2'; clear h2' hn' hA')
                  | (go_at_call 64; refine (refLook_any A' (n - (at_ + 1)) c' B0 t _ H2.out (Nat.le_trans hB hsz) hcc (by omega)).mono ?_; rintro e w2 ⟨rfl, hb2⟩; rw [HK.out.1, HK.out.2.1, HK.out.2.2]; have HB2 := Lib.hid (And.intro (HR.out.below.trans (hb2.mono hsz)) hb2); clear hb2 H2)
                  | fail)
                go_ret2
                rw [HE.out]
                exact ⟨none, 0, 0, rfl, Ow.nil _ _ _, HB2.out.1⟩
              · have g2i : ¬ (bk : Int) < 1 := by omega
                by_cases g3 : 512 < bk
                · have g3i : (512 : Int) < (bk : Int) := by omega
                  skip
                  have he := re_bad (most := most) (x := x) (t := t) (out := out) (by rw [headR_bad2 hx128 hlkt (by omega) (by rw [hlen, hX]; omega)]; simp)
                  rw [heq, headR_bad2 hx128 hlkt (by omega) (by rw [hlen, hX]; omega)] at he
                  have HE := Lib.hid he
                  clear he heq hlen hfew hX hx128 hlkt
                  go_wp2_with (first
                    | (refine wp_cut_l u8ty rfl (.tmp 59) (.tmp 60) rfl rfl rfl HHW.out (by omega) (by omega) hc0 ?_; intro A' n' c' hn' hc' h2' hA'; have hnn : n' = n - (at_ + 1) := (by omega); subst hnn; have hcc : n - (at_ + 1) ≤ c' := (by omega); rw [show ((at_ : Int) + 1).toNat = at_ + 1 by omega, ← bv_drop, HT.out] at h2'; have H2 := Lib.hid h2'; clear h2' hn' hA')
                    | (go_at_call 64; refine (refLook_any A' (n - (at_ + 1)) c' B0 t _ H2.out (Nat.le_trans hB hsz) hcc (by omega)).mono ?_; rintro e w2 ⟨rfl, hb2⟩; rw [HK.out.1, HK.out.2.1, HK.out.2.2]; have HB2 := Lib.hid (And.intro (HR.out.below.trans (hb2.mono hsz)) hb2); clear hb2 H2)
                    | fail)
                  go_ret2
                  rw [HE.out]
                  exact ⟨none, 0, 0, rfl, Ow.nil _ _ _, HB2.out.1⟩
                · have g3i : ¬ (512 : Int) < (bk : Int) := by omega
                  by_cases g4 : N < bk
                  · have g4i : (N : Int) < (bk : Int) := by omega
                    skip
                    have he := re_bad (most := most) (x := x) (t := t) (out := out) (by rw [headR_bad2 hx128 hlkt (by omega) (by rw [hlen, hX]; omega)]; simp)
                    rw [heq, headR_bad2 hx128 hlkt (by omega) (by rw [hlen, hX]; omega)] at he
                    have HE := Lib.hid he
                    clear he heq hlen hfew hX hx128 hlkt
                    go_wp2_with (first
                      | (refine wp_cut_l u8ty rfl (.tmp 59) (.tmp 60) rfl rfl rfl HHW.out (by omega) (by omega) hc0 ?_; intro A' n' c' hn' hc' h2' hA'; have hnn : n' = n - (at_ + 1) := (by omega); subst hnn; have hcc : n - (at_ + 1) ≤ c' := (by omega); rw [show ((at_ : Int) + 1).toNat = at_ + 1 by omega, ← bv_drop, HT.out] at h2'; have H2 := Lib.hid h2'; clear h2' hn' hA')
                      | (go_at_call 64; refine (refLook_any A' (n - (at_ + 1)) c' B0 t _ H2.out (Nat.le_trans hB hsz) hcc (by omega)).mono ?_; rintro e w2 ⟨rfl, hb2⟩; rw [HK.out.1, HK.out.2.1, HK.out.2.2]; have HB2 := Lib.hid (And.intro (HR.out.below.trans (hb2.mono hsz)) hb2); clear hb2 H2)
                      | fail)
                    go_ret2
                    rw [HE.out]
                    exact ⟨none, 0, 0, rfl, Ow.nil _ _ _, HB2.out.1⟩
                  · have g4i : ¬ (N : Int) < (bk : Int) := by omega
                    by_cases hm1 : most < (X : Int) - 125
                    · have he := re_cap (most := most) (x := x) (t := t) (out := out) (by rw [headR_good hx128 hlkt (by omega) (by omega) (by omega) (by omega)]) (by rw [headR_good hx128 hlkt (by omega) (by omega) (by omega) (by omega), hlen]; simp only; omega)
                      rw [heq] at he
                      have HE := Lib.hid he
                      clear he heq hlen hfew hX hx128 hlkt
                      go_wp2_with (first
                        | (refine wp_cut_l u8ty rfl (.tmp 59) (.tmp 60) rfl rfl rfl HHW.out (by omega) (by omega) hc0 ?_; intro A' n' c' hn' hc' h2' hA'; have hnn : n' = n - (at_ + 1) := (by omega); subst hnn; have hcc : n - (at_ + 1) ≤ c' := (by omega); rw [show ((at_ : Int) + 1).toNat = at_ + 1 by omega, ← bv_drop, HT.out] at h2'; have H2 := Lib.hid h2'; clear h2' hn' hA')
                        | (go_at_call 64; refine (refLook_any A' (n - (at_ + 1)) c' B0 t _ H2.out (Nat.le_trans hB hsz) hcc (by omega)).mono ?_; rintro e w2 ⟨rfl, hb2⟩; rw [HK.out.1, HK.out.2.1, HK.out.2.2]; have HB2 := Lib.hid (And.intro (HR.out.below.trans (hb2.mono hsz)) hb2); clear hb2 H2)
                        | fail)
                      go_ret2
                      rw [HE.out]
                      exact ⟨none, 0, 0, rfl, Ow.nil _ _ _, HB2.out.1⟩
                    · by_cases hm2 : most - ((X : Int) - 125) < (N : Int)
                      · have he := re_cap (most := most) (x := x) (t := t) (out := out) (by rw [headR_good hx128 hlkt (by omega) (by omega) (by omega) (by omega)]) (by rw [headR_good hx128 hlkt (by omega) (by omega) (by omega) (by omega), hlen]; simp only; omega)
                        rw [heq] at he
                        have HE := Lib.hid he
                        clear he heq hlen hfew hX hx128 hlkt
                        go_wp2_with (first
                          | (refine wp_cut_l u8ty rfl (.tmp 59) (.tmp 60) rfl rfl rfl HHW.out (by omega) (by omega) hc0 ?_; intro A' n' c' hn' hc' h2' hA'; have hnn : n' = n - (at_ + 1) := (by omega); subst hnn; have hcc : n - (at_ + 1) ≤ c' := (by omega); rw [show ((at_ : Int) + 1).toNat = at_ + 1 by omega, ← bv_drop, HT.out] at h2'; have H2 := Lib.hid h2'; clear h2' hn' hA')
                          | (go_at_call 64; refine (refLook_any A' (n - (at_ + 1)) c' B0 t _ H2.out (Nat.le_trans hB hsz) hcc (by omega)).mono ?_; rintro e w2 ⟨rfl, hb2⟩; rw [HK.out.1, HK.out.2.1, HK.out.2.2]; have HB2 := Lib.hid (And.intro (HR.out.below.trans (hb2.mono hsz)) hb2); clear hb2 H2)
                          | fail)
                        go_ret2
                        rw [HE.out]
                        exact ⟨none, 0, 0, rfl, Ow.nil _ _ _, HB2.out.1⟩
                      · have he := re_match (most := most) (x := x) (t := t) (out := out) (back := bk) (s := sz) (by rw [headR_good hx128 hlkt (by omega) (by omega) (by omega) (by omega)]) (by omega) (by omega)
                        rw [heq, hX] at he
                        obtain ⟨m, hm3⟩ : ∃ m, X - 125 = m := ⟨_, rfl⟩
                        have hmi : (X : Int) - 125 = (m : Int) := by omega
                        rw [hm3] at he
                        have HLN := Lib.hid (And.intro he hlen)
                        have hm66 : m ≤ 66 := by omega
                        have hsz3 : at_ + 1 + sz ≤ n := by omega
                        clear he heq hlen hfew hX hx128 hlkt hlkb
                        go_wp2_with (first
                          | (refine wp_cut_l u8ty rfl (.tmp 59) (.tmp 60) rfl rfl rfl HHW.out (by omega) (by omega) hc0 ?_; intro A' n' c' hn' hc' h2' hA'; have hnn : n' = n - (at_ + 1) := (by omega); subst hnn; have hcc : n - (at_ + 1) ≤ c' := (by omega); rw [show ((at_ : Int) + 1).toNat = at_ + 1 by omega, ← bv_drop, HT.out] at h2'; have H2 := Lib.hid h2'; clear h2' hn' hA')
                          | (go_at_call 64; refine (refLook_any A' (n - (at_ + 1)) c' B0 t _ H2.out (Nat.le_trans hB hsz) hcc (by omega)).mono ?_; rintro e w2 ⟨rfl, hb2⟩; rw [HK.out.1, HK.out.2.1, HK.out.2.2]; have HB2 := Lib.hid (And.intro (HR.out.below.trans (hb2.mono hsz)) hb2); clear hb2 H2)
                          | fail)
                        have hsize2 := HB2.out.1.size
                        have HIN : Hid (Below w.heap.size w w2 ∧ Ow w2 w.heap.size 5 A N c (bv (copies out bk 0))) := Lib.hid ⟨HB2.out.1, HR.out.own.below HB2.out.2 (Nat.le_refl _)⟩
                        try rw [hmi]
                        clear HB2 HR hc1 HHW
                        go_loopw [6, 106, 107, 108, 109, 110, 111, 112, 113, 114, 115, 116, 117, 118] (fun s2 i _ _ _ _ _ _ _ _ _ _ _ _ wx => ∃ (j : Nat) (A : Option Addr) (N2 c : Nat), s2 = .slice A N2 c ∧ i = .int .i64 (j : Nat) ∧ j ≤ m ∧ N2 = N + j ∧ Hid (Below w.heap.size w wx ∧ Ow wx w.heap.size 5 A N2 c (bv (copies out bk j)))) (fun _ i _ _ _ _ _ _ _ _ _ _ _ _ _ => m - (intOf i).toNat)
                        case atStart => exact ⟨0, A, N, c, rfl, rfl, by omega, by omega, HIN⟩
                        case round =>
                          clear HIN
                          obtain ⟨j, A2, N2, c2, rfl, rfl, hj, hN2, HI⟩ := hrel
                          subst hN2
                          by_cases hlt2 : j < m
                          · have hji : (j : Int) < (m : Int) := by omega
                            have hcl : (copies out bk j).length = N + j := by rw [copies_len, HLN.out.2]
                            obtain ⟨g2, rfl, hg2, hg3⟩ := HI.out.2.at0 (by omega)
                            obtain ⟨b3, o3, hA3, hb3, hc3⟩ := HI.out.2.rd.at_ (k := N + j - bk) (by omega)
                            obtain ⟨rfl, rfl⟩ : g2 = b3 ∧ 0 = o3 := by simpa using hA3
                            rw [bv_at _ _ (by omega)] at hc3
                            have htk : copies out bk (j + 1) = copies out bk j ++ [(copies out bk j)[N + j - bk]'(by omega)] := by
                              show _ ++ [(copies out bk j).getD ((copies out bk j).length - bk) 0] = _
                              have h0 : (copies out bk j).getD (N + j - bk) 0 = (copies out bk j)[N + j - bk]'(by omega) := by
                                rw [List.getD_eq_getElem?_getD, List.getElem?_eq_getElem (by omega)]
                                rfl
                              rw [← h0, hcl]
                            generalize hy : (copies out bk j)[N + j - bk]'(by omega) = y at *
                            obtain ⟨Y, hY⟩ : ∃ Y, y.toNat = Y := ⟨_, rfl⟩
                            have hY8 : Y < 256 := by rw [← hY]; exact y.toNat_lt
                            rw [hY] at hc3
                            have hix : ((N + j : Nat) : Int) - (bk : Int) = ((N + j - bk : Nat) : Int) := by omega
                            have hixl : N + j - bk < N + j := by omega
                            rw [Nat.zero_add] at hc3
                            have HTK := Lib.hid (And.intro htk (And.intro hY hcl))
                            clear htk hcl hA3 hy hY hix
                            go_wp2_with (first
                              | (at_builtin; refine wp_app u8ty rfl (.tmp 108) (.tmp 116) rfl rfl rfl (HI.out.2.alloc _) (Rd.one _ _ _) (one1 rfl) (by omega) (by omega) (by simp; have := HI.out.1.size; omega) ?_; intro A3 N3 c3 w4 ho4 hN4 hb4 hg4; have hl4 := ho4.len; clear hg4)
                              | fail)
                            go_roundw
                            case rel =>
                              have hb4' : Below w.heap.size wr w4 := ((Below.refl _ wr).alloc HI.out.1.size _).trans hb4
                              refine ⟨j + 1, A3, N3, c3, rfl, by go_num, by omega, ?_, Lib.hid ⟨HI.out.1.trans hb4', ?_⟩⟩
                              · rw [List.length_append, bv_len, HTK.out.2.2] at hl4
                                simp at hl4
                                omega
                              · rw [HTK.out.1, bv_app (copies out bk j)]
                                rw [← HTK.out.2.1] at ho4
                                exact ho4
                            case measure => simp only [intOf]; omega
                          · have hji : ¬ (j : Int) < (m : Int) := by omega
                            obtain rfl : j = m := by omega
                            have hfw : (copies out bk j).length ≤ 128 * (at_ + 1 + sz) := by rw [copies_len, HLN.out.2]; omega
                            have HF := Lib.hid hfw
                            clear hfw
                            go_wp2_with fail
                            go_roundw
                            case rel => exact ⟨rfl, rfl, A2, N + j, c2, at_ + 1 + sz, copies out bk j, rfl, by go_num, by omega, Lib.hid ⟨HI.out.1, HI.out.2, by rw [← List.drop_drop, HT.out]; exact HLN.out.1.symm, HF.out⟩⟩
                            case measure => simp only [intOf]; omega
          · have e0i : ¬ (er : Int) = 0 := by omega
            skip
            have he := re_bad (most := most) (x := x) (t := t) (out := out) (by rw [headR_bad2 hx128 hlkt (by omega) (by rw [hlen, hX]; omega)]; simp)
            rw [heq, headR_bad2 hx128 hlkt (by omega) (by rw [hlen, hX]; omega)] at he
            have HE := Lib.hid he
            clear he heq hlen hfew hX hx128 hlkt
            go_wp2_with (first
              | (refine wp_cut_l u8ty rfl (.tmp 59) (.tmp 60) rfl rfl rfl HHW.out (by omega) (by omega) hc0 ?_; intro A' n' c' hn' hc' h2' hA'; have hnn : n' = n - (at_ + 1) := (by omega); subst hnn; have hcc : n - (at_ + 1) ≤ c' := (by omega); rw [show ((at_ : Int) + 1).toNat = at_ + 1 by omega, ← bv_drop, HT.out] at h2'; have H2 := Lib.hid h2'; clear h2' hn' hA')
              | (go_at_call 64; refine (refLook_any A' (n - (at_ + 1)) c' B0 t _ H2.out (Nat.le_trans hB hsz) hcc (by omega)).mono ?_; rintro e w2 ⟨rfl, hb2⟩; rw [HK.out.1, HK.out.2.1, HK.out.2.2]; have HB2 := Lib.hid (And.intro (HR.out.below.trans (hb2.mono hsz)) hb2); clear hb2 H2)
              | fail)
            go_ret2
            rw [HE.out]
            exact ⟨none, 0, 0, rfl, Ow.nil _ _ _, HB2.out.1⟩
    · obtain rfl : at_ = n := by omega
      have hati : ¬ (at_ : Int) < (at_ : Int) := by omega
      have he := HR.out.eq
      rw [List.drop_eq_nil_of_le (by rw [HL.out]; exact Nat.le_refl _), re_nil] at he
      have HE := Lib.hid he
      clear he hlen hfew
      go_wp2_with fail
      go_ret2
      rw [← HE.out]
      exact ⟨A, N, c, rfl, HR.out.own, HR.out.below⟩
end Go.Proofs.YtbcgnacfhpahkaaDoor.lz
