/- What Open gives, whatever it is handed; the document's Seal and Open. -/
import Derived.Test.YtkgfbehlcjjjnaaDoorSumG
namespace Go.Proofs.YtkgfbehlcjjjnaaDoor.sum
open Go.RowKit Mem SM lib CM

/-- what Open returns of the bytes m -/
def OpenRes (w : World) (m : List UInt8) (e : Ending) (w' : World) : Prop := Below w.heap.size w w' ∧
  ((m.length < 4 ∧ e = .returned (.tuple #[.slice none 0 0, .int .i64 2])) ∨
   (4 ≤ m.length ∧ (∀ t, m ≠ t ++ le4 (crc t)) ∧ e = .returned (.tuple #[.slice none 0 0, .int .i64 10])) ∨
   (∃ t A n c, m = t ++ le4 (crc t) ∧ e = .returned (.tuple #[.slice A n c, .int .i64 0]) ∧ Ow w' w.heap.size 5 A n c (bv t)))

theorem not_sealed {t : List UInt8} {b0 b1 b2 b3 : UInt8} (h : [b0, b1, b2, b3] ≠ le4 (crc t)) : ∀ t', t ++ [b0, b1, b2, b3] ≠ t' ++ le4 (crc t') := by
  intro t' e
  have hl : t.length = t'.length := by have := congrArg List.length e; simp [le4] at this; omega
  obtain ⟨e1, e2⟩ := List.append_inj e hl
  rw [← e1] at e2
  exact h e2

theorem open_any (A : Option Addr) (n c B : Nat) (m : List UInt8) (w : World) (h : Rd w B A n (bv m)) (hc : n ≤ c) (ht : Tab w) (hB : B ≤ w.heap.size) (hn : n ≤ 1048576) :
    Calls Tryd.prog 26 #[.slice A n c] w (OpenRes w m) := by
  have hl : m.length = n := by have := h.len; rw [bv_len] at this; exact this
  by_cases h4 : n < 4
  · refine (open_short A n c w h4).mono ?_
    rintro e w' ⟨rfl, rfl⟩
    exact ⟨Below.refl _ _, Or.inl ⟨by omega, rfl⟩⟩
  obtain ⟨k, rfl⟩ : ∃ k, n = k + 4 := ⟨n - 4, by omega⟩
  obtain ⟨t, b0, b1, b2, b3, rfl, htk⟩ := split_four hl
  obtain ⟨d0, d1, d2, d3, hle⟩ := le4_four (crc t)
  by_cases hq : [b0, b1, b2, b3] = [d0, d1, d2, d3]
  · refine (open_good A c B k t b0 b1 b2 b3 w h htk hc ht hB (by omega) d0 d1 d2 d3 hle (decide_eq_true hq)).mono ?_
    rintro e w' ⟨A2, n2, c2, rfl, ho, hb⟩
    exact ⟨hb, Or.inr (Or.inr ⟨t, A2, n2, c2, by rw [hle, hq], rfl, ho⟩)⟩
  · refine (open_bad A c B k t b0 b1 b2 b3 w h htk hc ht hB (by omega) d0 d1 d2 d3 hle (decide_eq_false hq)).mono ?_
    rintro e w' ⟨rfl, hb⟩
    exact ⟨hb, Or.inr (Or.inl ⟨by omega, not_sealed (by rw [hle]; exact hq), rfl⟩)⟩

theorem refSeal_any (A : Option Addr) (n c B : Nat) (l : List UInt8) (w : World) (h : Rd w B A n (bv l)) (hB : B ≤ w.heap.size) (hn : n ≤ 1048576) :
    Calls Tryd.prog 29 #[.slice A n c] w (Made w (l ++ le4 (crc l))) := by
  have Hl := Lib.hid h.len
  have ho0 := Ow.lit w 5 [] (base := w.heap.size) (Nat.le_refl _) (by simp [maxLen])
  have h2 := h.below ((Below.refl B w).alloc hB (.cells #[] 5)) (Nat.le_refl _)
  obtain ⟨s, hs⟩ : ∃ s, s = (crc l).toNat := ⟨_, rfl⟩
  have hlt : s < 4294967296 := by rw [hs]; exact (crc l).isLt
  obtain ⟨b0, b1, b2, b3, hle⟩ := le4_four (crc l)
  have hv : #[Value.int .u8 ((s : Int) % 256), .int .u8 ((s : Int) / 256 % 256), .int .u8 ((s : Int) / 65536 % 256), .int .u8 ((s : Int) / 16777216)] = (bv [b0, b1, b2, b3]).toArray := by
    rw [← hle]
    unfold le4 bv
    rw [← hs]
    simp only [List.map_cons, List.map_nil, byte_nat]
    rw [show ((s / 256 : Nat) : Int) = (s : Int) / 256 from by simp, show ((s / 65536 : Nat) : Int) = (s : Int) / 65536 from by simp, show ((s / 16777216 : Nat) : Int) = (s : Int) / 16777216 from by simp,
      show (s : Int) / 16777216 % 256 = (s : Int) / 16777216 from by omega]
  have HV := Lib.hid hv
  have HS := Lib.hid hs
  have HLE := Lib.hid hle
  clear hv hs hle
  go_enter Tryd.func29, Tryd.ntmps29
  go_wp2_with fail
  refine (refCrc_any A n c B l w h (by omega)).mono ?_
  rintro e w0 ⟨rfl, rfl⟩
  rw [← HS.out]
  go_wp2_with (first
    | (at_builtin; refine wp_app u8ty rfl (.tmp 6) (.tmp 7) rfl rfl rfl ho0 h2 (bv_one l) (by simp; omega) (by simp; omega) (by simp) ?_; intro A1 N1 c1 w1 ho1 hN1 hb1 _; have hsr := rd_alloc w1 5 (bv [b0, b1, b2, b3]) (0, 0); rw [← HV.out] at hsr; have hz1 := hb1.size; simp at hz1)
    | (at_builtin; refine wp_app u8ty rfl (.tmp 8) (.tmp 23) rfl rfl rfl (ho1.alloc _) hsr (bv_one _) (by simp at hN1; omega) (by simp at hN1; omega) (by simp; omega) ?_; intro A3 N3 c3 w3 ho3 _ hb3 _))
  go_ret
  refine ⟨_, _, _, rfl, ?_, ?_⟩
  · rw [List.nil_append, ← bv_app, ← HLE.out] at ho3
    exact ho3
  · exact (((Below.refl _ _).alloc (Nat.le_refl _) _).trans (hb1.alloc (by omega) _)).trans hb3

set_option maxHeartbeats 2000000 in
theorem refOpen_any (A : Option Addr) (n c B : Nat) (m : List UInt8) (w : World) (h : Rd w B A n (bv m)) (hc : n ≤ c) (hB : B ≤ w.heap.size) (hn : n ≤ 1048576) :
    Calls Tryd.prog 27 #[.slice A n c] w (OpenRes w m) := by
  have hl : m.length = n := by have := h.len; rw [bv_len] at this; exact this
  by_cases h4 : n < 4
  · have HL := Lib.hid hl
    clear hl
    go_enter Tryd.func27, Tryd.ntmps27
    go_wp2
    go_ret2
    exact ⟨Below.refl _ _, Or.inl ⟨by have := HL.out; omega, rfl⟩⟩
  obtain ⟨k, rfl⟩ : ∃ k, n = k + 4 := ⟨n - 4, by omega⟩
  have HL := Lib.hid hl
  have h2 := h.below ((Below.refl B w).alloc hB (.cells #[] 5)) (Nat.le_refl _)
  have ho0 := Ow.lit w 5 [] (base := w.heap.size) (Nat.le_refl _) (by simp [maxLen])
  have hba : Below w.heap.size w (w.alloc (.cells #[] 5)) := (Below.refl _ _).alloc (Nat.le_refl _) _
  clear hl
  go_enter Tryd.func27, Tryd.ntmps27
  go_wp2_with (first
    | (refine wp_cut_h u8ty rfl (.tmp 9) (.tmp 12) rfl rfl rfl h2 (by omega) (by omega) hc ?_; intro A1 n1 hn1 hr1; have hn2 : n1 = k := (by omega); have HN1 := Lib.hid hn2; clear hn1 hn2)
    | (at_builtin; refine wp_app u8ty rfl (.tmp 8) (.tmp 13) rfl rfl rfl ho0 hr1 (by rw [show ((k : Int)).toNat = k from by omega, ← bv_take]; exact bv_one _) (by have := HN1.out; simp; omega) (by have := HN1.out; simp; omega) (by simp) ?_; intro A2 N2 c2 w1 ho1 hN2 hb1 _))
  obtain ⟨t, htk⟩ : ∃ t, t = m.take k := ⟨_, rfl⟩
  rw [List.nil_append, show ((k : Int)).toNat = k from by omega, ← bv_take, ← htk] at ho1
  obtain ⟨S, hS⟩ : ∃ S, S = t ++ le4 (crc t) := ⟨_, rfl⟩
  have hb1' := hba.trans hb1
  have hz1 := hb1'.size
  have hN3 : N2 ≤ 1048576 := by have := HN1.out; omega
  have hbm := (h.below hb1' hB).drew
  have rb := run_string Tryd.underlying31 Tryd.underlying5 Tryd.underlying9 hbm c
  have HBM := Lib.hid hbm
  have HTK := Lib.hid htk
  have HSS := Lib.hid hS
  clear hS htk hbm
  by_cases hSm : S = m
  · have hd : ((bs S).toList == (bs m).toList) = true := by rw [bs_toList, bs_toList, hSm]; exact beq_self_eq_true _
    have HSM := Lib.hid hSm
    clear hSm
    go_region_law (go_simp; go_at_call 29; refine (refSeal_any _ _ _ _ t _ ho1.rd.drew (Nat.le_refl _) hN3).mono ?_; rintro e w3 ⟨A3, N3, c3, rfl, ho3, hb3⟩; rw [← HSS.out] at ho3; have rs := run_string Tryd.underlying31 Tryd.underlying5 Tryd.underlying9 ho3.rd c3; have rb3 := run_string Tryd.underlying31 Tryd.underlying5 Tryd.underlying9 (HBM.out.below hb3 (Nat.le_trans hB hz1)) c)
    all_goals (go_wp2_with fail; go_ret2; exact ⟨hb1'.drew.trans (hb3.mono hz1), Or.inr (Or.inr ⟨t, A2, N2, c2, by rw [← HSS.out, HSM.out], rfl, ho1.drew.below hb3 (Nat.le_refl _)⟩)⟩)
  · have hd : ((bs S).toList == (bs m).toList) = false := by rw [bs_toList, bs_toList]; exact beq_eq_false_iff_ne.2 hSm
    have hno : ∀ t', m ≠ t' ++ le4 (crc t') := by
      intro t' e
      have hl := HL.out
      rw [e] at hl
      have hl2 : t'.length = k := by simp [le4] at hl; omega
      have ht2 : t = t' := by rw [HTK.out, e, ← hl2, List.take_left]
      exact hSm (by rw [HSS.out, ht2]; exact e.symm)
    have HNO := Lib.hid hno
    clear hSm hno
    go_region_law (go_simp; go_at_call 29; refine (refSeal_any _ _ _ _ t _ ho1.rd.drew (Nat.le_refl _) hN3).mono ?_; rintro e w3 ⟨A3, N3, c3, rfl, ho3, hb3⟩; rw [← HSS.out] at ho3; have rs := run_string Tryd.underlying31 Tryd.underlying5 Tryd.underlying9 ho3.rd c3; have rb3 := run_string Tryd.underlying31 Tryd.underlying5 Tryd.underlying9 (HBM.out.below hb3 (Nat.le_trans hB hz1)) c)
    all_goals (go_wp2_with fail; go_ret2; exact ⟨hb1'.drew.trans (hb3.mono hz1), Or.inr (Or.inl ⟨by have := HL.out; omega, HNO.out, rfl⟩)⟩)
end Go.Proofs.YtkgfbehlcjjjnaaDoor.sum
