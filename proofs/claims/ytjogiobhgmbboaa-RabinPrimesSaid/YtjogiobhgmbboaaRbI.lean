/- The examples of rabin, and the table that the statements take. -/
import Derived.Test.YtjogiobhgmbboaaRbH
namespace Go.Proofs.Ytjogiobhgmbboaa.rb
open Go.RowKit Mem
set_option linter.unusedVariables false
variable {w w' : World} {b p : Nat} {d s : Int} {A F : Nat → Nat}
theorem rd_alloc (w : World) (E : TypeId) (cs : List Value) (fr : Nat × Nat) : Rd (w.alloc (.cells cs.toArray E fr)) (w.heap.size + 1) (some ⟨w.heap.size, 0, none⟩) cs.length cs := by
  refine ⟨rfl, fun _ => ⟨_, 0, rfl, by omega, fun i hi => ?_⟩⟩
  have h : (w.alloc (.cells cs.toArray E fr)).heap[w.heap.size]? = some (.cells cs.toArray E fr) := by
    show (w.heap.push _)[w.heap.size]? = _
    simp
  unfold World.cell?
  rw [h]
  simp
theorem below_of_grown' {B : Nat} {w0 : World} (h : Below B w0 w) (hg : Grown b w w') (hB : B ≤ b ∧ B ≤ w.heap.size) : Below B w0 w' :=
  h.grown hg hB.2 (fun k e => by injection e with e; omega)
theorem Grown.rd_far {B n : Nat} {A : Option Addr} {xs : List Value} (h : Grown b w w') (hr : Rd w B A n xs) (hB : B ≤ w.heap.size) (hne : ∀ a, A = some a → a.block ≠ b) : Rd w' B A n xs := by
  refine ⟨hr.len, fun hn => ?_⟩
  obtain ⟨c, off, rfl, hc, hcell⟩ := hr.addr hn
  refine ⟨c, off, rfl, hc, fun k hk => ?_⟩
  have hx := hne _ rfl
  rw [h.cell (a := ⟨c, off + k, none⟩) hx (show c < w.heap.size by omega)]
  exact hcell k hk
/-- the cells of a fresh table -/
theorem fresh_eq : Try.zeroCells64 = #[.int .u64 0, .int .u32 0, .int .i32 0, .int .u32 0] ++ Array.replicate 512 (.int .u64 0) := by kernel_rfl
theorem fresh_size (p : Nat) : (freshT p).size = 516 := by unfold freshT; rw [Array.size_setIfInBounds, fresh_eq]; simp
theorem fresh_get (p i : Nat) (h1 : 4 ≤ i) (h2 : i < 516) : (freshT p)[i]? = some (.int .u64 0) := by
  unfold freshT
  rw [Array.getElem?_setIfInBounds, if_neg (by omega), fresh_eq, Array.getElem?_append_right (by simp; omega), Array.getElem?_replicate]
  rw [if_pos (by simp; omega)]
theorem fresh_tab (p : Nat) (w : World) : TabB (w.alloc (.cells (freshT p) 64)) w.heap.size p 0 0 (fun _ => 0) (fun _ => 0) := by
  have hc : ∀ i, i < 516 → (w.alloc (.cells (freshT p) 64)).cell? ⟨w.heap.size, i, none⟩ = (freshT p)[i]? := by
    intro i hi
    have := fresh_size p
    go_simp
  refine ⟨?_, ?_, ?_, ?_, ?_, ?_⟩
  · rw [hc 0 (by omega)]; unfold freshT; rw [Array.getElem?_setIfInBounds, if_pos rfl, fresh_eq]; simp
  · rw [hc 1 (by omega)]; unfold freshT; rw [Array.getElem?_setIfInBounds, if_neg (by omega), fresh_eq]; simp
  · rw [hc 2 (by omega)]; unfold freshT; rw [Array.getElem?_setIfInBounds, if_neg (by omega), fresh_eq]; simp
  · intro i hi; rw [hc (4 + i) (by omega), fresh_get p _ (by omega) (by omega)]; rfl
  · intro i hi; rw [hc (260 + i) (by omega), fresh_get p _ (by omega) (by omega)]; rfl
  · intro o; go_simp
theorem v_mod : md 9 3 = 0 := by rw [← mdF_eq (by decide) 62 9 (by decide)]; decide +kernel
theorem v_mul : ml 3 3 7 = 2 := by
  have : (7 : Nat).log2 = 2 := by decide +kernel
  rw [ml_some (by rw [this]; decide)]
  have h := mlF_eq (p := 7) (by decide) 64 3 3 0 (by decide) (by rw [this]; decide) (by rw [this]; decide)
  rw [Nat.zero_xor] at h
  rw [← h]; decide +kernel
theorem v_gcd : gd 9 5 = 3 := by
  have : (5 : Nat).log2 = 2 := by decide +kernel
  rw [← gdF_eq 64 9 5 (by decide) (by decide) (Or.inr (by rw [this]; decide))]; decide +kernel
theorem v_prime (p n : Nat) (b : Bool) (hp : p ≠ 0) (hn : p.log2 = n) (h2 : 2 ≤ n) (h31 : n ≤ 31) (h : primeG p (n / 2) 2 = b) : primeB p = b := by
  unfold primeB
  have hd : dg p = n := by rw [dg_pos hp, hn]
  rw [if_neg (by rw [hd]; omega), hn, ← primeG_eq hp (by omega) (by rw [hn]; exact Nat.lt_of_lt_of_le (by decide : 2 < 2 ^ 2) (Nat.pow_le_pow_right (by decide) h2)) _ _ (by rw [hn]; exact Nat.lt_of_lt_of_le (by decide : 2 < 2 ^ 2) (Nat.pow_le_pow_right (by decide) h2)), h]
theorem v_p11 : primeB 11 = true := v_prime 11 3 true (by decide) (by decide +kernel) (by decide) (by decide) (by decide +kernel)
theorem v_p5 : primeB 5 = false := v_prime 5 2 false (by decide) (by decide +kernel) (by decide) (by decide) (by decide +kernel)
theorem v_fp : fp 2147483657 [1, 2] = 258 := by
  have hl : (2147483657 : Nat).log2 = 31 := tri_log
  have p31 : (2 : Nat) ^ 31 = 2147483648 := by decide
  have e1 : md (0 * 256 + 1) 2147483657 = 1 := by rw [md_of_low (by rw [hl, p31]; decide)]
  have e2 : md (1 * 256 + 2) 2147483657 = 258 := by rw [md_of_low (by rw [hl, p31]; decide)]
  have k1 : (1 : UInt8).toNat = 1 := by decide
  have k2 : (2 : UInt8).toNat = 2 := by decide
  unfold fp fpF
  rw [List.foldl_cons, List.foldl_cons, List.foldl_nil, k1, k2, e1, e2]
/-- the examples hold, and nothing that was there has changed -/
theorem awake_any (w : World) :
    Calls Try.prog 19 #[] w fun e w' => e = .returned (.bool true) ∧ Below w.heap.size w w' := by
  have h1 : ∀ w, Calls Try.prog 17 #[.int .u64 9, .int .u64 3] w fun e w' => e = .returned (.int .u64 0) ∧ w = w' := fun w => by
    have := mod_any 9 3 w (by decide) (by decide)
    rwa [v_mod] at this
  have h2 : ∀ w, Calls Try.prog 20 #[.int .u64 3, .int .u64 3, .int .u64 7] w fun e w' => e = .returned (.int .u64 2) ∧ w = w' := fun w => by
    have := mul_any 3 3 7 w (by decide) (by decide) (by decide)
    rwa [v_mul] at this
  have h3 : ∀ w, Calls Try.prog 22 #[.int .u64 9, .int .u64 5] w fun e w' => e = .returned (.int .u64 3) ∧ w = w' := fun w => by
    have := gcd_any 9 5 w (by decide) (by decide)
    rwa [v_gcd] at this
  have h4 : ∀ w, Calls Try.prog 26 #[.int .u64 11] w fun e w' => e = .returned (.bool true) ∧ w = w' := fun w => by
    have := prime_any 11 w (by decide)
    rwa [v_p11] at this
  have h5 : ∀ w, Calls Try.prog 26 #[.int .u64 5] w fun e w' => e = .returned (.bool false) ∧ w = w' := fun w => by
    have := prime_any 5 w (by decide)
    rwa [v_p5] at this
  have H1 := Lib.hid h1
  have H2 := Lib.hid h2
  have H3 := Lib.hid h3
  have H4 := Lib.hid h4
  have H5 := Lib.hid h5
  clear h1 h2 h3 h4 h5
  have hT := fresh_tab 2147483657 w
  have hb : Below w.heap.size w (w.alloc (.cells (freshT 2147483657) 64)) := (Below.refl _ w).alloc (Nat.le_refl _) _
  have hsz : (w.alloc (.cells (freshT 2147483657) 64)).heap.size = w.heap.size + 1 := by simp
  have HB := Lib.hid (And.intro hb hsz)
  clear hb hsz
  go_enter Try.func19, Try.ntmps19
  go_wp2_with fail
  refine (new_good 2147483657 w (by decide) tri_good).mono ?_
  rintro e w1 ⟨rfl, hw1⟩
  rw [← hw1] at hT HB
  clear hw1
  go_wp2_with (first
    | (go_at_call 17; refine (H1.out _).mono ?_; rintro e w' ⟨rfl, rfl⟩)
    | (go_at_call 20; refine (H2.out _).mono ?_; rintro e w' ⟨rfl, rfl⟩)
    | (go_at_call 22; refine (H3.out _).mono ?_; rintro e w' ⟨rfl, rfl⟩)
    | (go_at_call 26; with_reducible refine (H4.out _).mono ?_; rintro e w' ⟨rfl, rfl⟩)
    | (go_at_call 26; with_reducible refine (H5.out _).mono ?_; rintro e w' ⟨rfl, rfl⟩))
  have hb1 := HB.out.1
  have hb2 := HB.out.2
  have hR := rd_alloc w1 5 [.int .u8 1, .int .u8 2] (0, 0)
  refine (print_any (w1.heap.size + 1) 2 2 _ [1, 2] _ tri_log (Or.inl (hT.alloc _)) (fun w' hG => ?_) (by omega)).mono ?_
  · exact hG.rd_far hR (by simp) (fun a e => by injection e with e; subst e; show w1.heap.size ≠ w.heap.size; omega)
  rintro e w2 ⟨rfl, hT2, hG2⟩
  have hc0 := hT2.c0
  rw [v_fp]
  go_wp2_with (go_at_call 33; refine (poly_any _ hc0).mono ?_; rintro e w' ⟨rfl, rfl⟩)
  go_ret
  exact ⟨rfl, below_of_grown' (hb1.alloc (by omega) _) hG2 (by simp; omega)⟩
theorem u64_nat {n : Int} (h : (Lit.int .u64 n).wf = true) : ∃ a : Nat, n = (a : Nat) ∧ a < 18446744073709551616 := by
  have : 0 ≤ n ∧ n ≤ 18446744073709551615 := by simpa [Lit.wf, IntKind.min, IntKind.max, IntKind.signed, IntKind.bits] using h
  exact ⟨n.toNat, by omega, by omega⟩
#print axioms awake_any
end Go.Proofs.Ytjogiobhgmbboaa.rb
