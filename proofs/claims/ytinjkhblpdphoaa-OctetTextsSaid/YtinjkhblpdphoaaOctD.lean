/- slices.Clone and slices.Equal at ints. -/
import Derived.Test.YtinjkhblpdphoaaOctAwake
namespace Go.Proofs.Ytinjkhblpdphoaa.oct
open Go.RowKit Mem OM
theorem i64ty : Ty1 Try.prog 28 3 (.int .i64 0) 8 :=
  ⟨Try.underlying28, by
    have h : (Try.prog.info? 3).map (fun i => (i.zero, i.size, i.bytes)) = some (some (.int .i64 0), 1, 8) := by kernel_rfl
    obtain ⟨i, h1, h2, h3, h4⟩ := info_parts h
    exact ⟨i, h1, h2, h3, h4⟩, rfl⟩

theorem cloneInts_any (A : Option Addr) (n c B : Nat) (l : List Int) (w : World) (h : Rd w B A n (iv l)) (hB : B ≤ w.heap.size) (hn : n ≤ 1099511627776) :
    Calls Try.prog 18 #[.slice A n c] w fun e w' => ∃ A' N c', e = .returned (.slice A' N c') ∧ Ow w' w.heap.size 3 A' N c' (iv l) ∧ Below w.heap.size w w' := by
  have hnil := fun (a : Option Addr) => Lib.run_eql_slice_nil w _ _ a n c 0 0 Try.underlying28
  cases A with
  | none =>
    have h0 : l = [] := by
      rcases Nat.eq_zero_or_pos n with h0 | h0
      · exact List.eq_nil_of_length_eq_zero (by rw [← iv_len, h.len, h0])
      · obtain ⟨b, off, e, _⟩ := h.addr h0; cases e
    subst h0
    have Hh := Lib.hid h
    clear h
    go_enter Try.func18, Try.ntmps18
    go_wp2
    go_ret
    exact ⟨_, _, _, rfl, Ow.nil w _ _, Below.refl _ _⟩
  | some ad =>
    have hb : Below B w (w.alloc (.cells #[] 3)) := (Below.refl _ _).alloc hB _
    have h2 := h.below hb (Nat.le_refl _)
    have ho := Ow.lit0 w 3 (Nat.le_refl w.heap.size)
    go_enter Try.func18, Try.ntmps18
    go_wp2_with (at_builtin; refine wp_app i64ty rfl (.tmp 5) (.tmp 6) rfl rfl rfl ho h2 (iv_one l) (by omega) (by omega) (by simp) ?_; intro A' N c' w1 ho1 _ hb1 _)
    go_ret
    exact ⟨_, _, _, rfl, by simpa using ho1, (Below.alloc (Below.refl _ _) (Nat.le_refl _) _).trans hb1⟩

theorem equalInts_any (A1 A2 : Option Addr) (n c m d B : Nat) (l : List Int) (w : World) (h1 : Rd w B A1 n (iv l)) (h2 : Rd w B A2 m (iv l)) (hn : n ≤ 1099511627776) :
    Calls Try.prog 20 #[.slice A1 n c, .slice A2 m d] w fun e w' => e = .returned (.bool true) ∧ ∃ q, w' = w.drewN q := by
  obtain rfl : n = m := by have := h1.len; have := h2.len; omega
  have Hn := Lib.hid h1.len
  go_enter Try.func20, Try.ntmps20
  go_wp2_with fail
  go_loopw [5, 13] (fun _ i wr => ∃ k q : Nat, i = .int .i64 k ∧ k ≤ n ∧ wr = w.drewN q) (fun _ i _ => n - (intOf i).toNat)
  case atStart => exact ⟨0, 0, rfl, by omega, rfl⟩
  case round =>
    obtain ⟨k, q, rfl, hk, rfl⟩ := hrel
    by_cases hlt : k < n
    · have hkl : k < l.length := by have := Hn.out; rw [iv_len] at this; omega
      obtain ⟨b1, o1, rfl, _, hc1⟩ := h1.at_ hlt
      obtain ⟨b2, o2, rfl, _, hc2⟩ := h2.at_ hlt
      rw [iv_at l k hkl] at hc1 hc2
      obtain ⟨x, hx⟩ : ∃ x, x = l[k] := ⟨_, rfl⟩
      rw [← hx] at hc1 hc2
      have Hx := Lib.hid hx
      clear hx
      have hk1 : (k : Int) < (n : Int) := by omega
      have hne : (x != x) = false := by simp
      go_wp2_with fail
      go_quiet (fail)
      go_wp2
      go_roundw
      case rel => exact ⟨k + 1, _, by go_num, by omega, rfl⟩
      case measure => simp [intOf]; omega
    · go_wp2
      go_ret
      exact ⟨rfl, q, rfl⟩
end Go.Proofs.Ytinjkhblpdphoaa.oct
