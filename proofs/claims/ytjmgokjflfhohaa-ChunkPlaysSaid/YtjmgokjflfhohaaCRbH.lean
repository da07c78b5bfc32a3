/- Fingerprints: Poly, behind, Print, and the document's Print. -/
import Derived.Test.YtjmgokjflfhohaaCRbG
namespace Go.Proofs.Ytjmgokjflfhohaa.rb
open Go.RowKit Mem
set_option linter.unusedVariables false
variable {w w' : World} {b p : Nat} {d s : Int} {A F : Nat → Nat}
/- mathematics -/
theorem add_low {x y i : Nat} (hx : x % 2 ^ i = 0) (hy : y < 2 ^ i) : x + y = x ^^^ y := by
  have h := Nat.two_pow_add_eq_or_of_lt hy (x / 2 ^ i)
  have e : 2 ^ i * (x / 2 ^ i) = x := by have := Nat.div_add_mod x (2 ^ i); omega
  rw [e] at h
  rw [h]
  apply Nat.eq_of_testBit_eq
  intro j
  rw [Nat.testBit_or, Nat.testBit_xor]
  by_cases c : j < i
  · have : x.testBit j = false := by
      have k : (x % 2 ^ i).testBit j = x.testBit j := by rw [Nat.testBit_mod_two_pow]; simp [c]
      rw [← k, hx]; simp
    rw [this]; simp
  · have : y.testBit j = false := Nat.testBit_lt_two_pow (Nat.lt_of_lt_of_le hy (Nat.pow_le_pow_right (by decide) (by omega)))
    rw [this]; simp
theorem cm_pow (i x : Nat) : cm x (2 ^ i) = x * 2 ^ i := by rw [cm_comm, cm_shift]
theorem ml_low {a b p : Nat} (hp : p.log2 = 31) : ml a b p = md (cm b a) p := ml_some (by
  intro h
  rcases h with h | h
  · subst h; simp at hp
  · omega)
theorem behind_math {f c p : Nat} (hp : p.log2 = 31) (hf : f < 2147483648) (hc : c < 256) :
    ((f * 256 + c) % 2147483648) ^^^ AV p ((f * 256 + c) / 2147483648) = md (f * 256 + c) p := by
  have p0 : p ≠ 0 := by intro h; subst h; simp at hp
  obtain ⟨x, hx⟩ : ∃ x, x = f * 256 + c := ⟨_, rfl⟩
  rw [← hx]
  have p31 : (2 : Nat) ^ 31 = 2147483648 := by decide
  have e : x = x % 2147483648 ^^^ (x / 2147483648 * 2147483648) := by
    have h1 : x / 2147483648 * 2147483648 % 2 ^ 31 = 0 := by rw [p31]; exact Nat.mul_mod_left _ _
    have h2 : x % 2147483648 < 2 ^ 31 := by rw [p31]; exact Nat.mod_lt _ (by decide)
    rw [x_comm, ← add_low h1 h2]
    exact (Nat.div_add_mod' x 2147483648).symm
  have e2 : AV p (x / 2147483648) = md (x / 2147483648 * 2147483648) p := by
    unfold AV aboveV
    rw [ml_low hp, cm_comm, md_cm]
    have := cm_pow 31 (x / 2147483648)
    rw [p31] at this
    rw [this]
  have e3 : md (x % 2147483648) p = x % 2147483648 := md_of_low (by rw [hp, p31]; exact Nat.mod_lt _ (by decide))
  rw [e2]
  conv => rhs; rw [e, md_x, e3]
theorem poly_any (w : World) (h : w.cell? ⟨b, 0, none⟩ = some (.int .u64 (p : Nat))) :
    Calls Try.prog 37 #[.pointer (some ⟨b, 0, none⟩)] w fun e w' => e = .returned (.int .u64 (p : Nat)) ∧ w = w' := by
  go_enter Try.func37, Try.ntmps37
  go_wp2_with fail
  go_ret
  exact ⟨rfl, rfl⟩
theorem poly_nil (w : World) :
    Calls Try.prog 37 #[.pointer none] w fun e w' => e = .returned (.int .u64 0) ∧ w = w' := by
  go_enter Try.func37, Try.ntmps37
  go_wp2_with fail
  go_ret
  exact ⟨rfl, rfl⟩
set_option maxRecDepth 100000 in
theorem behind_any (f c : Nat) (w : World) (hp : p.log2 = 31) (ht : TabB w b p 1 0 (AV p) (FV p)) (hf : f < 2147483648) (hc : c < 256) :
    Calls Try.prog 47 #[.pointer (some ⟨b, 0, none⟩), .int .u64 (f : Nat), .int .u8 (c : Nat)] w fun e w' => e = .returned (.int .u64 (md (f * 256 + c) p : Nat)) ∧ w = w' := by
  rw [← behind_math hp hf hc]
  obtain ⟨x, hx⟩ : ∃ x, f * 256 + c = x := ⟨_, rfl⟩
  rw [hx]
  have p31 : (2 : Nat) ^ 31 = 2147483648 := by decide
  have hor : bits .or .u64 ((f : Int) * 256) (c : Int) = (x : Int) := by
    rw [show (f : Int) * 256 = ((f * 256 : Nat) : Int) by omega, u64_or_nat _ _ (by omega) (by omega), nat_join 8 (f * 256) c (by omega) (by omega), hx]
  have hand : bits .and .u64 (x : Int) 2147483647 = ((x % 2147483648 : Nat) : Int) := by
    rw [show (2147483647 : Int) = ((2147483647 : Nat) : Int) from rfl, u64_and_nat _ _ (by omega) (by decide)]
    have := Nat.and_two_pow_sub_one_eq_mod x 31
    rw [p31] at this
    rw [this]
  obtain ⟨q, hq⟩ : ∃ q, x / 2147483648 = q := ⟨_, rfl⟩
  obtain ⟨r, hr⟩ : ∃ r, x % 2147483648 = r := ⟨_, rfl⟩
  have hqi : (x : Int) / 2147483648 = (q : Int) := by omega
  have hq2 : (q : Int) < 256 := by omega
  rw [hq, hr]
  rw [hr] at hand
  have h := ht.ab q (by omega)
  obtain ⟨y, hy⟩ : ∃ y, AV p q = y := ⟨_, rfl⟩
  have hyb : y < 18446744073709551616 := by
    rw [← hy]; unfold AV; exact ml_bound (Nat.lt_of_lt_of_le (by have := Nat.lt_log2_self (n := p); rw [hp] at this; exact this) (by decide))
  rw [hy] at h ⊢
  have hxr : bits .xor .u64 (r : Int) (y : Int) = ((r ^^^ y : Nat) : Int) := u64_xor_nat _ _ (by omega) hyb
  have hqt : (q : Int).toNat = q := Int.toNat_natCast q
  clear ht hx hq hr hy
  go_enter Try.func47, Try.ntmps47
  go_wp2_with fail
  go_ret
  exact ⟨rfl, rfl⟩
/-- the fingerprint, byte by byte -/
def fpF (p : Nat) (f : Nat) (l : List UInt8) : Nat := l.foldl (fun f c => md (f * 256 + c.toNat) p) f
def fp (p : Nat) (l : List UInt8) : Nat := fpF p 0 l
theorem fpF_app (p f : Nat) (l r : List UInt8) : fpF p f (l ++ r) = fpF p (fpF p f l) r := by simp [fpF, List.foldl_append]
theorem fpF_snoc (p f : Nat) (l : List UInt8) (c : UInt8) : fpF p f (l ++ [c]) = md (fpF p f l * 256 + c.toNat) p := by rw [fpF_app]; rfl
theorem take_snoc8 (l : List UInt8) (k : Nat) (h : k < l.length) : l.take (k + 1) = l.take k ++ [l[k]] := List.take_succ_eq_append_getElem h
theorem fp_low {p : Nat} (hp : p.log2 = 31) : ∀ (l : List UInt8) (f : Nat), f < 2147483648 → fpF p f l < 2147483648
  | [], f, h => h
  | c :: l, f, h => by
    apply fp_low hp l
    have p0 : p ≠ 0 := by intro h; subst h; simp at hp
    have := md_low p0 (f * 256 + c.toNat)
    rw [hp] at this
    exact this
theorem Grown.rd {B n : Nat} {A : Option Addr} {xs : List Value} (h : Grown b w w') (hr : Rd w B A n xs) (hB : B ≤ b) (hb : b < w.heap.size) : Rd w' B A n xs :=
  hr.grown h (by omega) (fun k e => by injection e with e; omega)
theorem TabOk.drew (h : TabOk w b p) : TabOk w.drew b p := h.imp TabB.drew TabB.drew
theorem Grown.of_drew (h : Grown b w.drew w') : Grown b w w' := ⟨h.os, h.tape, h.output, h.size, h.block⟩
theorem bit_byte {x m : Nat} (h : x < 256) : bits .and .u64 (((x / 2 ^ m : Nat)) : Int) 1 = ((x / 2 ^ m % 2 : Nat) : Int) := and_one (Nat.lt_of_le_of_lt (Nat.div_le_self _ _) (by omega))
theorem top31 {x y : Nat} (h1 : 2147483648 ≤ x) (h2 : x < 4294967296) (h3 : 2147483648 ≤ y) (h4 : y < 4294967296) : x ^^^ y < 2147483648 := by
  have p31 : (2 : Nat) ^ 31 = 2147483648 := by decide
  have p32 : (2 : Nat) ^ (31 + 1) = 4294967296 := by decide
  have := @top_xx 31 x y (by rw [p31]; exact h1) (by rw [p32]; exact h2) (by rw [p31]; exact h3) (by rw [p32]; exact h4)
  rw [p31] at this
  exact this
/-- a fingerprint, a byte's highest bits behind it -/
def fpH (p f x m : Nat) : Nat := md (f * 2 ^ (8 - m) + x / 2 ^ m) p
theorem fpH_start (p f x : Nat) (hp : p.log2 = 31) (hf : f < 2147483648) (hx : x < 256) : fpH p f x 8 = f := by
  unfold fpH
  rw [show x / 2 ^ 8 = 0 from Nat.div_eq_of_lt (by omega), Nat.sub_self, Nat.pow_zero, Nat.mul_one, Nat.add_zero, md_of_low (by rw [hp]; exact hf)]
theorem fpH_step (p f x m : Nat) (hm : m < 8) : fpH p f x m = md (2 * fpH p f x (m + 1) + x / 2 ^ m % 2) p := by
  unfold fpH
  have e1 : f * 2 ^ (8 - m) + x / 2 ^ m = 2 * (f * 2 ^ (8 - (m + 1)) + x / 2 ^ (m + 1)) + x / 2 ^ m % 2 := by
    have a : 2 ^ (8 - m) = 2 * 2 ^ (8 - (m + 1)) := by rw [show 8 - m = (8 - (m + 1)) + 1 by omega, Nat.pow_succ]; omega
    have c : x / 2 ^ (m + 1) = x / 2 ^ m / 2 := by rw [Nat.div_div_eq_div_mul, Nat.pow_succ]
    rw [a, c, ← Nat.mul_assoc, Nat.mul_comm f 2, Nat.mul_assoc]
    omega
  rw [e1]
  generalize f * 2 ^ (8 - (m + 1)) + x / 2 ^ (m + 1) = y
  have hb : x / 2 ^ m % 2 < 2 ^ 1 := by have := Nat.mod_lt (x / 2 ^ m) (show 2 > 0 by decide); omega
  rw [add_low (i := 1) (by omega) hb, add_low (i := 1) (by omega) hb, md_x, md_x (2 * md y p), md_two]
theorem fpH_end (p f x : Nat) : fpH p f x 0 = md (f * 256 + x) p := by
  unfold fpH
  rw [Nat.pow_zero, Nat.div_one, show (2 : Nat) ^ (8 - 0) = 256 from by decide]
set_option maxRecDepth 100000 in
set_option maxHeartbeats 1000000 in
theorem rprint_any (B n c : Nat) (A : Option Addr) (l : List UInt8) (w : World) (hp : p.log2 = 31) (hp64 : p < 18446744073709551616) (hr : Rd w B A n (bv l)) (hn : n ≤ 1099511627776) :
    Calls Try.prog 36 #[.int .u64 (p : Nat), .slice A n c] w fun e w' => e = .returned (.int .u64 (fp p l : Nat)) ∧ w = w' := by
  have p0 : p ≠ 0 := by intro h; subst h; simp at hp
  have Hn := Lib.hid (show l.length = n by rw [← bv_len, hr.len])
  go_enter Try.func36, Try.ntmps36
  go_wp2_with fail
  go_loop [5, 7, 8, 11, 12, 13, 14, 15, 16, 17, 18, 19, 20, 21, 22, 23, 24, 25, 26, 27, 28, 29, 30, 31, 32, 33, 34, 35, 36] (fun v5 _ _ v11 _ _ _ _ _ _ _ _ _ _ _ _ _ _ _ _ _ _ _ _ _ _ _ _ _ => ∃ f k : Nat, v5 = .int .u64 (f : Nat) ∧ v11 = .int .i64 (k : Nat) ∧ k ≤ n ∧ f < 2147483648 ∧ Hid (f = fpF p 0 (l.take k))) (fun _ _ _ v _ _ _ _ _ _ _ _ _ _ _ _ _ _ _ _ _ _ _ _ _ _ _ _ _ => n - (intOf v).toNat)
  case atStart => exact ⟨0, 0, rfl, rfl, by omega, by omega, Lib.hid rfl⟩
  case round =>
    obtain ⟨f, k, rfl, rfl, hk, hf, HF⟩ := hrel
    by_cases hlt : k < n
    · have hkl : k < l.length := by have := Hn.out; omega
      obtain ⟨b1, o1, rfl, hb1, hc1⟩ := hr.at_ hlt
      rw [bv_at l k hkl] at hc1
      obtain ⟨x, hx⟩ : ∃ x, x = l[k] := ⟨_, rfl⟩
      rw [← hx] at hc1
      obtain ⟨x8, hx8⟩ : ∃ y, y = x.toNat := ⟨_, rfl⟩
      have hxb : x8 < 256 := by rw [hx8]; exact x.toNat_lt
      have hs : md (f * 256 + x8) p = fpF p 0 (l.take (k + 1)) := by rw [take_snoc8 l k hkl, fpF_snoc, HF.out, hx8, hx]
      have HS := Lib.hid hs
      have HB := Lib.hid (show md (f * 256 + x8) p < 2147483648 by
        have := md_low p0 (f * 256 + x8)
        rw [hp] at this
        exact this)
      rw [← hx8] at hc1
      clear hs hx8 hx
      have hk1 : (k : Int) < (n : Int) := by omega
      go_wp2_with fail
      go_loop [5, 8, 15, 16, 17, 18, 19, 20, 21, 22, 23, 24, 25, 26, 27, 28, 29, 30, 31, 32, 33, 34, 35] (fun v5 v8 _ _ _ _ _ _ _ _ _ _ _ _ _ _ _ _ _ _ _ _ _ => ∃ g j : Nat, v5 = .int .u64 (g : Nat) ∧ v8 = .int .i64 ((j : Int) - 1) ∧ j ≤ 8 ∧ g < 2147483648 ∧ Hid (g = fpH p f x8 j)) (fun _ v _ _ _ _ _ _ _ _ _ _ _ _ _ _ _ _ _ _ _ _ _ => (intOf v + 1).toNat)
      case atStart => exact ⟨f, 8, rfl, rfl, by omega, hf, Lib.hid (fpH_start p f x8 hp hf hxb).symm⟩
      case round =>
        obtain ⟨g, j, rfl, rfl, hj, hg, HG⟩ := hrel
        by_cases d : j = 0
        · subst d
          go_wp2_with fail
          go_round
          case rel => exact ⟨g, k + 1, rfl, by go_num, by omega, hg, Lib.hid (by rw [← HS.out, ← fpH_end, HG.out])⟩
          case measure => simp only [intOf]; omega
        · obtain ⟨m, rfl⟩ : ∃ m, j = m + 1 := ⟨j - 1, by omega⟩
          have e1 : ((m + 1 : Nat) : Int) - 1 = (m : Int) := by omega
          rw [e1]
          have d3 : (0 : Int) ≤ (m : Int) := by omega
          obtain ⟨y, hy⟩ : ∃ y, x8 / 2 ^ m = y := ⟨_, rfl⟩
          have hyb : y < 256 := by rw [← hy]; exact Nat.lt_of_le_of_lt (Nat.div_le_self _ _) hxb
          obtain ⟨t, ht⟩ : ∃ t, y % 2 = t := ⟨_, rfl⟩
          obtain ⟨r, hr2⟩ : ∃ r, 2 * g + t = r := ⟨_, rfl⟩
          have hw1 : IntKind.u64.wrap ((x8 : Int) / 2 ^ m) = (y : Int) := by rw [div_pow, hy, IntKind.wrap_u64]; omega
          have hw2 : bits .and .u64 (y : Int) 1 = (t : Int) := by rw [and_one (by omega), ht]
          have hw3 : IntKind.u64.wrap (2 * (g : Int) + (t : Int)) = (r : Int) := by rw [IntKind.wrap_u64]; omega
          have hrb : r < 4294967296 := by omega
          have hst : fpH p f x8 m = md r p := by rw [fpH_step p f x8 m (by omega), ← HG.out, hy, ht, hr2]
          have HST := Lib.hid hst
          have p31 : (2 : Nat) ^ 31 = 2147483648 := by decide
          have p32 : (2 : Nat) ^ (31 + 1) = 4294967296 := by decide
          have hdr := dg_le (a := r) p0
          rw [hp, p31] at hdr
          have hdp := dg_pos p0
          rw [hp] at hdp
          have hdr2 : dg r ≤ 31 := by
            by_cases z : r = 0
            · subst z; decide
            · rw [dg_pos z]
              have := (Nat.log2_lt (k := 32) z).2 (by rw [show (2 : Nat) ^ 32 = 4294967296 from p32]; exact hrb)
              omega
          clear hy ht hst
          by_cases c : r < 2147483648
          · have hne : (dg r == dg p) = false := by rw [beq_eq_false_iff_ne]; omega
            have HE := Lib.hid (show r = fpH p f x8 m by rw [HST.out, md_of_low (by rw [hp, p31]; exact c)])
            clear hdr hdr2 hdp hr2
            go_wp2_with (go_at_call 43; refine (rdeg_any _ _ (by omega)).mono ?_; rintro e w' ⟨rfl, rfl⟩)
            go_round
            case rel => exact ⟨r, m, rfl, rfl, by omega, c, HE⟩
            case measure => simp only [intOf]; omega
          · have hne : (dg r == dg p) = true := by rw [beq_iff_eq]; omega
            have hq1 := deg_of p0
            rw [hp] at hq1
            have hlo : r ^^^ p < 2147483648 := top31 (by omega) hrb (by rw [p31] at hq1; exact hq1.1) (by rw [p32] at hq1; exact hq1.2)
            have hxx : bits .xor .u64 (r : Int) (p : Int) = ((r ^^^ p : Nat) : Int) := u64_xor_nat _ _ (by omega) hp64
            have HE := Lib.hid (show (r ^^^ p) = fpH p f x8 m by
              rw [HST.out]
              have := cong_add (p := p) r 0
              rw [Nat.pow_zero, Nat.mul_one] at this
              rw [← md_eq_of this, md_of_low (by rw [hp, p31]; exact hlo)])
            clear hdr hdr2 hdp hr2 hq1
            go_wp2_with (go_at_call 43; refine (rdeg_any _ _ (by omega)).mono ?_; rintro e w' ⟨rfl, rfl⟩)
            go_round
            case rel => exact ⟨_, m, rfl, rfl, by omega, hlo, HE⟩
            case measure => simp only [intOf]; omega
    · have HE := Lib.hid (show f = fp p l by rw [HF.out, List.take_of_length_le (by have := Hn.out; omega)]; rfl)
      go_wp2_with fail
      go_ret
      exact ⟨ret_int (by rw [HE.out]), rfl⟩
end Go.Proofs.Ytjmgokjflfhohaa.rb
