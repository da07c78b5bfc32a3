/- bytes.Compare, and that a number's bytes stand in order. -/
import Derived.Test.YtinjkhblpdphoaaOctAwake
import Derived.Lib.BytesEntry
namespace Go.Proofs.Ytinjkhblpdphoaa.oct
open Go.RowKit Mem OM

theorem run_bytesOf {w : World} {P : Program} {B : Nat} {A : Option Addr} {n : Nat} {l : List UInt8} (hr : Rd w B A n (bv l)) (c : Nat) : (Extern.Bytes.bytesOf (.slice A n c)).run P w = .ok (bs l) w := by
  have hlen : l.length = n := by rw [← hr.len, bv_len]
  cases A with
  | none =>
    have h0 : n = 0 := by
      rcases Nat.eq_zero_or_pos n with h | h
      · exact h
      · obtain ⟨b, off, e, _⟩ := hr.addr h; cases e
    subst h0
    have hl : l = [] := List.eq_nil_of_length_eq_zero hlen
    subst hl
    rfl
  | some ad =>
    have hl := Lib.run_loadBytesX (P := P) w (l.map fun b => (b.toNat : Int)) ad .empty (fun j x hj => by
      have hjl : j < l.length := by have := (List.getElem?_eq_some_iff.1 hj).1; simpa using this
      obtain ⟨b, off, e, _, hc⟩ := hr.addr (by omega)
      obtain rfl := Option.some.inj e
      rw [Addr.add_lit, hc j (by omega), bv_at l j hjl]
      simp [hjl] at hj
      rw [hj])
    rw [List.length_map, hlen] at hl
    show (Extern.Bytes.loadBytes ad n .empty).run P w = _
    rw [hl]
    congr 1
    apply ByteArray.ext
    show (#[] : Array UInt8) ++ (Lib.bytesOf (l.map fun b => (b.toNat : Int))).toArray = l.toArray
    simp [Lib.bytesOf, Function.comp_def]

theorem run_compare {w : World} {P : Program} {B : Nat} {A1 A2 : Option Addr} {n m : Nat} {l r : List UInt8} (h1 : Rd w B A1 n (bv l)) (h2 : Rd w B A2 m (bv r)) (c d : Nat) :
    (Extern.BytealgCompare.compare #[.slice A1 n c, .slice A2 m d]).run P w = .ok (.int .i64 (Lib.compareBytes l r)) w := by
  have e1 := run_bytesOf (P := P) h1 c
  have e2 := run_bytesOf (P := P) h2 d
  change Sem.run P (do pure (goInt (Extern.BytealgCompare.cmp (← Extern.Bytes.bytesOf (.slice A1 n c)) (← Extern.Bytes.bytesOf (.slice A2 m d))))) w = _
  simp only [Sem.run_bind, e1, e2, Sem.run_pure, Result.andThen]
  rw [Lib.cmp_eq]
  rfl

theorem compare_any (A1 A2 : Option Addr) (n c m d B : Nat) (l r : List UInt8) (w : World) (h1 : Rd w B A1 n (bv l)) (h2 : Rd w B A2 m (bv r)) :
    Calls Try.prog 39 #[.slice A1 n c, .slice A2 m d] w fun e w' => e = .returned (.int .i64 (Lib.compareBytes l r)) ∧ w = w' := by
  have hr := run_compare (P := Try.prog) h1 h2 c d
  go_enter Try.func39, Try.ntmps39
  go_wp2
  rw [run_callFunc_extern Try.func47 (by kernel_rfl) (by kernel_rfl) (by kernel_rfl) (e := Extern.BytealgCompare.compare) (by kernel_rfl), hr]
  simp only [Result.andThen]
  rw [Oper.upon_value]
  go_wp2
  go_ret
  exact ⟨rfl, rfl⟩

def val : List UInt8 → Nat
  | [] => 0
  | b :: t => b.toNat * 256 ^ t.length + val t
theorem val_lt : ∀ l : List UInt8, val l < 256 ^ l.length
  | [] => by simp [val]
  | b :: t => by
    have ih := val_lt t
    have hb := b.toNat_lt
    simp only [val, List.length_cons, Nat.pow_succ]
    have : b.toNat * 256 ^ t.length + 256 ^ t.length ≤ 256 * 256 ^ t.length := by
      rw [← Nat.succ_mul]
      exact Nat.mul_le_mul_right _ (by omega)
    rw [Nat.mul_comm (256 ^ t.length) 256]
    omega
theorem cmp_val : ∀ l r : List UInt8, l.length = r.length → (Lib.compareBytes l r < 0 ↔ val l < val r) ∧ (Lib.compareBytes l r = 0 ↔ val l = val r)
  | [], [], _ => by simp [Lib.compareBytes, val]
  | [], _ :: _, h => by simp at h
  | _ :: _, [], h => by simp at h
  | a :: l, b :: r, h => by
    have hl : l.length = r.length := by simpa using h
    have ih := cmp_val l r hl
    have h1 := val_lt l
    have h2 := val_lt r
    simp only [Lib.compareBytes, val, hl]
    rw [hl] at h1
    by_cases hab : a < b
    · rw [if_pos hab]
      have hn : a.toNat + 1 ≤ b.toNat := UInt8.lt_iff_toNat_lt.1 hab
      have hm : (a.toNat + 1) * 256 ^ r.length ≤ b.toNat * 256 ^ r.length := Nat.mul_le_mul_right _ hn
      rw [Nat.succ_mul] at hm
      constructor <;> constructor <;> intro <;> omega
    · rw [if_neg hab]
      by_cases hba : b < a
      · rw [if_pos hba]
        have hn : b.toNat + 1 ≤ a.toNat := UInt8.lt_iff_toNat_lt.1 hba
        have hm : (b.toNat + 1) * 256 ^ r.length ≤ a.toNat * 256 ^ r.length := Nat.mul_le_mul_right _ hn
        rw [Nat.succ_mul] at hm
        constructor <;> constructor <;> intro <;> omega
      · rw [if_neg hba]
        have e : a.toNat = b.toNat := by
          have h3 : ¬ a.toNat < b.toNat := fun h => hab (UInt8.lt_iff_toNat_lt.2 h)
          have h4 : ¬ b.toNat < a.toNat := fun h => hba (UInt8.lt_iff_toNat_lt.2 h)
          omega
        rw [e]
        constructor
        · rw [ih.1]; omega
        · rw [ih.2]; omega
theorem val_tl (u : Nat) : ∀ k, val (tl u k k) = u % 256 ^ k
  | 0 => by simp [tl, val, Nat.mod_one]
  | k + 1 => by
    have e : u % 256 ^ (k + 1) = u % 256 ^ k + 256 ^ k * (u / 256 ^ k % 256) := by rw [Nat.pow_succ, Nat.mod_mul]
    rw [tl_cons, val, val_tl u k, tl_len, UInt8.toNat_ofNat', e, Nat.mul_comm (256 ^ k), Nat.add_comm]
theorem val_num (u : Nat) (h : u ≤ 9223372036854775807) : val (numB u) = lead (fol u) * 256 ^ fol u + u := by
  have hh := (hd_lt u (by omega)).1
  unfold numB
  rw [val, tl_len, val_tl, UInt8.toNat_ofNat_of_lt' (show hd u < UInt8.size from hh)]
  unfold hd
  rw [Nat.add_mul, Nat.add_assoc, Nat.mul_comm (u / 256 ^ fol u), Nat.div_add_mod]
theorem lead_mono {j k : Nat} (h : j ≤ k) : lead j ≤ lead k := by
  unfold lead
  have : 2 ^ (8 - k) ≤ 2 ^ (8 - j) := Nat.pow_le_pow_right (by omega) (by omega)
  omega
theorem fol_mono_lt {a b : Nat} (h : fol a < fol b) : a < b := by
  have h1 := fol_lt a (by have := fol_le b; omega)
  have h2 := fol_ge b (fol a) h
  omega
theorem hd_less {a b : Nat} (ha : a ≤ 9223372036854775807) (h : fol a < fol b) : hd a < hd b := by
  have h8 := fol_le b
  have h1 := (hd_lt a (by omega)).2.2 (by omega)
  have h2 := lead_mono (show fol a + 1 ≤ fol b by omega)
  have h3 : lead (fol a + 1) = lead (fol a) + 2 ^ (7 - fol a) := by
    unfold lead
    have e1 : 8 - fol a = (7 - fol a) + 1 := by omega
    have e2 : 8 - (fol a + 1) = 7 - fol a := by omega
    have e3 : 2 ^ (7 - fol a) ≤ 2 ^ 7 := Nat.pow_le_pow_right (by omega) (by omega)
    rw [e1, e2, Nat.pow_succ]
    omega
  unfold hd
  rw [h3] at h2
  generalize a / 256 ^ fol a = p at h1 ⊢
  generalize b / 256 ^ fol b = q
  generalize 2 ^ (7 - fol a) = r at h1 h2
  omega
theorem cmp_num (a b : Nat) (ha : a ≤ 9223372036854775807) (hb : b ≤ 9223372036854775807) :
    (Lib.compareBytes (numB a) (numB b) < 0 ↔ a < b) ∧ (Lib.compareBytes (numB a) (numB b) = 0 ↔ a = b) := by
  have h1 := (hd_lt a (by omega)).1
  have h2 := (hd_lt b (by omega)).1
  have less : ∀ x y : Nat, hd x < 256 → hd y < 256 → hd x < hd y → UInt8.ofNat (hd x) < UInt8.ofNat (hd y) := fun x y hx hy hxy => by
    rw [UInt8.lt_iff_toNat_lt, UInt8.toNat_ofNat_of_lt' (show hd x < UInt8.size from hx), UInt8.toNat_ofNat_of_lt' (show hd y < UInt8.size from hy)]
    exact hxy
  rcases Nat.lt_trichotomy (fol a) (fol b) with h | h | h
  · have hl := fol_mono_lt h
    have hh := less a b h1 h2 (hd_less ha h)
    unfold numB
    simp only [Lib.compareBytes, if_pos hh]
    constructor <;> constructor <;> intro <;> omega
  · have := cmp_val (numB a) (numB b) (by rw [numB_len, numB_len, h])
    rw [val_num a ha, val_num b hb, h] at this
    constructor
    · rw [this.1]; omega
    · rw [this.2]; omega
  · have hl := fol_mono_lt h
    have hh := less b a h2 h1 (hd_less hb h)
    have hn : ¬ UInt8.ofNat (hd a) < UInt8.ofNat (hd b) := fun h' => by
      have := UInt8.lt_iff_toNat_lt.1 h'
      have := UInt8.lt_iff_toNat_lt.1 hh
      omega
    unfold numB
    simp only [Lib.compareBytes, if_pos hh, if_neg hn]
    constructor <;> constructor <;> intro <;> omega
end Go.Proofs.Ytinjkhblpdphoaa.oct
