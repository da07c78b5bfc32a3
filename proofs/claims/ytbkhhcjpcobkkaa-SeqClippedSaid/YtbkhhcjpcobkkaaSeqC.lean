/- Contracts over lists of numbers of 32 bits: Most, the document's, slices.Clone, Equal, Contains. -/
import Derived.Test.YtbkhhcjpcobkkaaSeqB
namespace Go.Proofs.Ytbkhhcjpcobkkaa.sq
open Go.RowKit Mem
set_option linter.unusedVariables false
/-- numbers of 32 bits as values -/
def uv (l : List Int) : List Value := l.map fun n => .int .u32 n
theorem uv_len (l : List Int) : (uv l).length = l.length := by simp [uv]
theorem uv_at (l : List Int) (k : Nat) (h : k < l.length) : (uv l)[k]? = some (.int .u32 l[k]) := by simp [uv, h]
theorem uv_one (l : List Int) : ∀ u ∈ uv l, u.oneCell' = true := by
  intro u hu
  obtain ⟨b, _, rfl⟩ := List.mem_map.1 hu
  rfl
def U32 (l : List Int) : Prop := ∀ x ∈ l, 0 ≤ x ∧ x < 4294967296
theorem u32_wf {n : Int} (h : (Lit.int .u32 n).wf = true) : 0 ≤ n ∧ n < 4294967296 := by
  have : 0 ≤ n ∧ n ≤ 4294967295 := by simpa [Lit.wf, IntKind.min, IntKind.max, IntKind.signed, IntKind.bits] using h
  omega
theorem rd_u32s {w : World} {a : Addr} {len cap : Nat} {zs : List Int} (hl : len ≤ cap) (hz : zs.length = cap) (hc : ∀ i, i < zs.length → w.cell? (a.add i) = some (.int .u32 (zs.getD i 0))) (hw : ∀ n ∈ zs, (Lit.int .u32 n).wf = true) :
    ∃ l : List Int, Rd w w.heap.size (some a) len (uv l) ∧ U32 l :=
  ⟨zs.take len, rd_cells hl hz hc, fun x hx => u32_wf (hw x (List.mem_of_mem_take hx))⟩
theorem u32ty : Ty1 Try.prog 34 22 (.int .u32 0) 4 :=
  ⟨Try.underlying34, by
    have h : (Try.prog.info? 22).map (fun i => (i.zero, i.size, i.bytes)) = some (some (.int .u32 0), 1, 4) := by kernel_rfl
    obtain ⟨i, h1, h2, h3, h4⟩ := info_parts h
    exact ⟨i, h1, h2, h3, h4⟩, rfl⟩
theorem take_snoc (l : List Int) (k : Nat) (h : k < l.length) : l.take (k + 1) = l.take k ++ [l[k]] := List.take_succ_eq_append_getElem h
theorem take_all (l : List Int) (k n : Nat) (hk : k ≤ n) (h : ¬ k < n) (hn : l.length = n) : l.take k = l := List.take_of_length_le (by omega)

theorem most_any (first : Int) (A : Option Addr) (n c B : Nat) (l : List Int) (w : World) (h : Rd w B A n (uv l)) (hn : n ≤ 1099511627776) :
    Calls Try.prog 25 #[.int .u32 first, .slice A n c] w fun e w' => e = .returned (.int .u32 (mostF first l first)) ∧ w = w' := by
  have Hn := Lib.hid (show l.length = n by rw [← uv_len, h.len])
  go_enter Try.func25, Try.ntmps25
  go_wp2_with fail
  go_loop [5, 7, 11] (fun v _ i => ∃ (k : Nat) (m : Int), v = .int .u32 m ∧ i = .int .i64 k ∧ k ≤ n ∧ Hid (m = mostF first (l.take k) first)) (fun _ _ i => n - (intOf i).toNat)
  case atStart => exact ⟨0, first, rfl, rfl, by omega, (rfl : first = mostF first [] first)⟩
  case round =>
    obtain ⟨k, m, rfl, rfl, hk, Hm⟩ := hrel
    by_cases hlt : k < n
    · have hkl : k < l.length := by have := Hn.out; omega
      obtain ⟨b1, o1, rfl, _, hc1⟩ := h.at_ hlt
      rw [uv_at l k hkl] at hc1
      obtain ⟨x, hx⟩ : ∃ x, x = l[k] := ⟨_, rfl⟩
      rw [← hx] at hc1
      have hs : mostF first (l.take (k + 1)) first = if dif m first < dif x first then x else m := by
        rw [take_snoc l k hkl, mostF_snoc, ← Hm.out, hx]
      have Hs := Lib.hid hs
      clear hs hx
      have hk1 : (k : Int) < (n : Int) := by omega
      by_cases hd : dif m first < dif x first
      · have hb : decide (dif m first < dif x first) = true := decide_eq_true hd
        go_wp2_with (go_at_call 15; refine (diff_any _ _ _).mono ?_; rintro e w' ⟨rfl, rfl⟩)
        go_round
        case rel => exact ⟨k + 1, x, rfl, by go_num, by omega, Lib.hid (by rw [Hs.out, if_pos hd])⟩
        case measure => simp [intOf]; omega
      · have hb : decide (dif m first < dif x first) = false := decide_eq_false hd
        go_wp2_with (go_at_call 15; refine (diff_any _ _ _).mono ?_; rintro e w' ⟨rfl, rfl⟩)
        go_round
        case rel => exact ⟨k + 1, m, rfl, by go_num, by omega, Lib.hid (by rw [Hs.out, if_neg (by omega)])⟩
        case measure => simp [intOf]; omega
    · have hm : m = mostF first l first := by rw [Hm.out, take_all l k n hk hlt Hn.out]
      have HM := Lib.hid hm
      clear hm
      go_wp2
      go_ret
      exact ⟨ret_int (by rw [HM.out]), rfl⟩

theorem rmost_any (first : Int) (A : Option Addr) (n c B : Nat) (l : List Int) (w : World) (h : Rd w B A n (uv l)) (hn : n ≤ 1099511627776) (f0 : 0 ≤ first) (f1 : first < 4294967296) (hl : U32 l) :
    Calls Try.prog 26 #[.int .u32 first, .slice A n c] w fun e w' => e = .returned (.int .u32 (mostF first l first)) ∧ w = w' := by
  have Hn := Lib.hid (show l.length = n by rw [← uv_len, h.len])
  have HL := Lib.hid hl
  clear hl
  go_enter Try.func26, Try.ntmps26
  go_wp2_with fail
  go_loop [5, 6, 8, 9, 13] (fun v far _ _ i => ∃ (k : Nat) (m d : Int), v = .int .u32 m ∧ far = .int .i64 d ∧ i = .int .i64 k ∧ k ≤ n ∧ Hid (m = mostF first (l.take k) first ∧ d = dif m first)) (fun _ _ _ _ i => n - (intOf i).toNat)
  case atStart => exact ⟨0, first, 0, rfl, rfl, rfl, by omega, Lib.hid ⟨(rfl : first = mostF first [] first), (dif_self _).symm⟩⟩
  case round =>
    obtain ⟨k, m, d, rfl, rfl, rfl, hk, Hm⟩ := hrel
    by_cases hlt : k < n
    · have hkl : k < l.length := by have := Hn.out; omega
      obtain ⟨b1, o1, rfl, _, hc1⟩ := h.at_ hlt
      rw [uv_at l k hkl] at hc1
      obtain ⟨x, hx⟩ : ∃ x, x = l[k] := ⟨_, rfl⟩
      rw [← hx] at hc1
      have hxb : 0 ≤ x ∧ x < 4294967296 := by rw [hx]; exact HL.out _ (List.getElem_mem ..)
      have hs : mostF first (l.take (k + 1)) first = if d < dif x first then x else m := by
        rw [take_snoc l k hkl, mostF_snoc, ← Hm.out.1, hx, Hm.out.2]
      have Hs := Lib.hid hs
      clear hs hx
      have hk1 : (k : Int) < (n : Int) := by omega
      by_cases hd : d < dif x first
      · have hb : decide (d < dif x first) = true := decide_eq_true hd
        go_wp2_with (go_at_call 16; refine (rdiff_any _ _ _ (by omega) (by omega) (by omega) (by omega)).mono ?_; rintro e w' ⟨rfl, rfl⟩)
        go_round
        case rel => exact ⟨k + 1, x, _, rfl, rfl, by go_num, by omega, Lib.hid ⟨by rw [Hs.out, if_pos hd], rfl⟩⟩
        case measure => simp [intOf]; omega
      · have hb : decide (d < dif x first) = false := decide_eq_false hd
        go_wp2_with (go_at_call 16; refine (rdiff_any _ _ _ (by omega) (by omega) (by omega) (by omega)).mono ?_; rintro e w' ⟨rfl, rfl⟩)
        go_round
        case rel => exact ⟨k + 1, m, d, rfl, rfl, by go_num, by omega, Lib.hid ⟨by rw [Hs.out, if_neg (by omega)], Hm.out.2⟩⟩
        case measure => simp [intOf]; omega
    · have hm : m = mostF first l first := by rw [Hm.out.1, take_all l k n hk hlt Hn.out]
      have HM := Lib.hid hm
      clear hm
      go_wp2
      go_ret
      exact ⟨ret_int (by rw [HM.out]), rfl⟩

theorem cloneU_any (A : Option Addr) (n c B : Nat) (l : List Int) (w : World) (h : Rd w B A n (uv l)) (hB : B ≤ w.heap.size) (hn : n ≤ 1099511627776) :
    Calls Try.prog 24 #[.slice A n c] w fun e w' => ∃ A' N c', e = .returned (.slice A' N c') ∧ Ow w' w.heap.size 22 A' N c' (uv l) ∧ Below w.heap.size w w' := by
  have hnil := fun (a : Option Addr) => Lib.run_eql_slice_nil w _ _ a n c 0 0 Try.underlying34
  cases A with
  | none =>
    have h0 : l = [] := by
      rcases Nat.eq_zero_or_pos n with h0 | h0
      · exact List.eq_nil_of_length_eq_zero (by rw [← uv_len, h.len, h0])
      · obtain ⟨b, off, e, _⟩ := h.addr h0; cases e
    subst h0
    have Hh := Lib.hid h
    clear h
    go_enter Try.func24, Try.ntmps24
    go_wp2
    go_ret
    exact ⟨_, _, _, rfl, Ow.nil w _ _, Below.refl _ _⟩
  | some ad =>
    have hb : Below B w (w.alloc (.cells #[] 22)) := (Below.refl _ _).alloc hB _
    have h2 := h.below hb (Nat.le_refl _)
    have ho := Ow.lit0 w 22 (Nat.le_refl w.heap.size)
    go_enter Try.func24, Try.ntmps24
    go_wp2_with (at_builtin; refine wp_app u32ty rfl (.tmp 5) (.tmp 6) rfl rfl rfl ho h2 (uv_one l) (by omega) (by omega) (by simp) ?_; intro A' N c' w1 ho1 _ hb1 _)
    go_ret
    exact ⟨_, _, _, rfl, by simpa using ho1, (Below.alloc (Below.refl _ _) (Nat.le_refl _) _).trans hb1⟩

theorem equalU_any (A1 A2 : Option Addr) (n c m d B B2 : Nat) (l : List Int) (w : World) (h1 : Rd w B A1 n (uv l)) (h2 : Rd w B2 A2 m (uv l)) (hn : n ≤ 1099511627776) :
    Calls Try.prog 27 #[.slice A1 n c, .slice A2 m d] w fun e w' => e = .returned (.bool true) ∧ ∃ q, w' = w.drewN q := by
  obtain rfl : n = m := by have := h1.len; have := h2.len; omega
  have Hn := Lib.hid h1.len
  go_enter Try.func27, Try.ntmps27
  go_wp2_with fail
  go_loopw [5, 13] (fun _ i wr => ∃ k q : Nat, i = .int .i64 k ∧ k ≤ n ∧ wr = w.drewN q) (fun _ i _ => n - (intOf i).toNat)
  case atStart => exact ⟨0, 0, rfl, by omega, rfl⟩
  case round =>
    obtain ⟨k, q, rfl, hk, rfl⟩ := hrel
    by_cases hlt : k < n
    · have hkl : k < l.length := by have := Hn.out; rw [uv_len] at this; omega
      obtain ⟨b1, o1, rfl, _, hc1⟩ := h1.at_ hlt
      obtain ⟨b2, o2, rfl, _, hc2⟩ := h2.at_ hlt
      rw [uv_at l k hkl] at hc1 hc2
      obtain ⟨x, hx⟩ : ∃ x, x = l[k] := ⟨_, rfl⟩
      rw [← hx] at hc1 hc2
      have Hx := Lib.hid hx
      clear hx
      have hk1 : (k : Int) < (n : Int) := by omega
      have hne : (x != x) = false := by simp
      go_wp2_with fail
      go_quiet (fail)
      go_wp2
      go_roundw
      case rel => exact ⟨k + 1, _, by go_num, by omega, rfl⟩
      case measure => simp [intOf]; omega
    · go_wp2
      go_ret
      exact ⟨rfl, q, rfl⟩

/-- a number that stands in the list is found -/
theorem indexU_any (A : Option Addr) (n c B : Nat) (l : List Int) (v : Int) (w : World) (h : Rd w B A n (uv l)) (hv : v ∈ l) (hn : n ≤ 1099511627776) :
    Calls Try.prog 30 #[.slice A n c, .int .u32 v] w fun e w' => (∃ k : Nat, e = .returned (.int .i64 k) ∧ k ≤ n) ∧ w = w' := by
  obtain ⟨j, hj, hjv⟩ := List.mem_iff_getElem.1 hv
  have Hn := Lib.hid (show l.length = n by rw [← uv_len, h.len])
  have hjn : j < n := by have := Hn.out; omega
  have Hj := Lib.hid hjv
  clear hjv hv
  go_enter Try.func30, Try.ntmps30
  go_wp2_with fail
  go_loop [5, 8] (fun _ i => ∃ k : Nat, i = .int .i64 k ∧ k ≤ j) (fun _ i => n - (intOf i).toNat)
  case atStart => exact ⟨0, rfl, by omega⟩
  case round =>
    obtain ⟨k, rfl, hk⟩ := hrel
    have hlt : k < n := by omega
    have hkl : k < l.length := by have := Hn.out; omega
    obtain ⟨b1, o1, rfl, _, hc1⟩ := h.at_ hlt
    rw [uv_at l k hkl] at hc1
    obtain ⟨x, hx⟩ : ∃ x, x = l[k] := ⟨_, rfl⟩
    rw [← hx] at hc1
    have hk1 : (k : Int) < (n : Int) := by omega
    by_cases he : v = x
    · have hb : (v == x) = true := by rw [beq_iff_eq]; exact he
      have Hx := Lib.hid hx
      clear he hx
      go_wp2
      go_ret
      exact ⟨⟨k, rfl, by omega⟩, rfl⟩
    · have hb : (v == x) = false := by rw [beq_eq_false_iff_ne]; exact he
      have hkj : k < j := by
        rcases Nat.lt_or_ge k j with h | h
        · exact h
        · obtain rfl : k = j := by omega
          exact absurd (hx.trans Hj.out).symm he
      have Hx := Lib.hid hx
      clear he hx
      go_wp2
      go_round
      case rel => exact ⟨k + 1, by go_num, by omega⟩
      case measure => simp [intOf]; omega
theorem containsU_any (A : Option Addr) (n c B : Nat) (l : List Int) (v : Int) (w : World) (h : Rd w B A n (uv l)) (hv : v ∈ l) (hn : n ≤ 1099511627776) :
    Calls Try.prog 28 #[.slice A n c, .int .u32 v] w fun e w' => e = .returned (.bool true) ∧ w = w' := by
  go_enter Try.func28, Try.ntmps28
  go_wp2_with fail
  refine (indexU_any A n c B l v w h hv hn).mono ?_
  rintro e w1 ⟨⟨k, rfl, hk⟩, rfl⟩
  go_wp2
  go_ret
  exact ⟨rfl, rfl⟩
theorem awake_any (w : World) :
    Calls Try.prog 17 #[] w fun e w' => e = .returned (.bool true) ∧ Below w.heap.size w w' := by
  have a1 : dif 1 4294967295 = 2 := by decide
  have a2 : lessB 4294967295 0 = true := by decide
  have a3 : inB 0 4294967295 2 = true := by decide
  have a4 : clipA 10 5 12 9 = 2 := by decide
  have a5 : clipK 10 5 12 9 = 3 := by decide
  have a6 : mostF 4294967295 [3, 0] 4294967295 = 3 := by decide
  go_enter Try.func17, Try.ntmps17
  go_wp2_with fail
  refine (clip_any 10 5 12 9 _ (by omega) (by omega)).mono ?_
  rintro e w1 ⟨rfl, hb1⟩
  go_wp2_with fail
  refine (diff_any _ _ _).mono ?_
  rintro e w' ⟨rfl, rfl⟩
  go_wp2_with fail
  refine (less_any _ _ _).mono ?_
  rintro e w' ⟨rfl, rfl⟩
  go_wp2_with fail
  refine (in_any _ _ _ _ (by omega) (by omega)).mono ?_
  rintro e w' ⟨rfl, rfl⟩
  go_wp2_with fail
  have hr2 : Rd (w1.alloc (.cells #[.int .u32 3, .int .u32 0] 22)) (w1.alloc (.cells #[.int .u32 3, .int .u32 0] 22)).heap.size (some ⟨w1.heap.size, 0, none⟩) 2 (uv [3, 0]) :=
    (show Ow _ w1.heap.size 22 _ 2 2 (uv [3, 0]) from Ow.lit w1 22 (uv [3, 0]) (Nat.le_refl _) (by simp [maxLen, uv])).rd
  refine (most_any _ _ 2 2 _ [3, 0] _ hr2 (by omega)).mono ?_
  rintro e w' ⟨rfl, rfl⟩
  go_wp2_with fail
  go_ret
  exact ⟨rfl, hb1.trans ((Below.refl _ _).alloc hb1.size _)⟩
end Go.Proofs.Ytbkhhcjpcobkkaa.sq
