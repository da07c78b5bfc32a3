/- What a roller has: the fingerprint of the last bytes. -/
import Derived.Test.YtjmgokjflfhohaaCRbL
namespace Go.Proofs.Ytjmgokjflfhohaa.rb
open Go.RowKit Mem
set_option linter.unusedVariables false
variable {w w' : World} {b p r : Nat} {win : List UInt8}
theorem p31 : (2 : Nat) ^ 31 = 2147483648 := by decide
theorem pos31 {p : Nat} (hp : p.log2 = 31) : p ≠ 0 := by intro h; subst h; simp at hp
theorem md_small {p x : Nat} (hp : p.log2 = 31) (h : x < 2147483648) : md x p = x := md_of_low (by rw [hp, p31]; exact h)
theorem md_sh (x k p : Nat) : md (md x p * 2 ^ k) p = md (x * 2 ^ k) p := by rw [← cm_shift, ← cm_shift, md_cm]
theorem firstV_eq {p : Nat} (hp : p.log2 = 31) : ∀ n, firstV p n = md (2 ^ (8 * n)) p
  | 0 => by rw [show 2 ^ (8 * 0) = 1 from rfl, md_small hp (by decide)]; rfl
  | n + 1 => by
    unfold firstV
    rw [firstV_eq hp n, ml_low hp, md_cm, show (256 : Nat) = 2 ^ 8 from rfl, cm_shift, ← Nat.pow_add]
    rw [show 8 * n + 8 = 8 * (n + 1) by omega]
theorem FV_eq {p : Nat} (hp : p.log2 = 31) (d : Nat) : FV p d = md (d * 2 ^ 120) p := by
  unfold FV
  rw [firstV_eq hp, ml_low hp, cm_comm, md_cm, cm_pow]
theorem add8 (f c : Nat) (h : c < 256) : f * 256 + c = f * 256 ^^^ c := add_low (i := 8) (by omega) (by omega)
theorem fp_lin {p : Nat} (hp : p.log2 = 31) : ∀ (l : List UInt8) (f : Nat), f < 2147483648 → fpF p f l = md (f * 2 ^ (8 * l.length)) p ^^^ fpF p 0 l
  | [], f, h => by
    show f = md (f * 2 ^ 0) p ^^^ 0
    rw [Nat.pow_zero, Nat.mul_one, md_small hp h, Nat.xor_zero]
  | c :: l, f, h => by
    have hc : c.toNat < 256 := c.toNat_lt
    have lo : ∀ x, md x p < 2147483648 := fun x => by have := md_low (pos31 hp) x; rw [hp, p31] at this; exact this
    show fpF p (md (f * 256 + c.toNat) p) l = _ ^^^ fpF p (md (0 * 256 + c.toNat) p) l
    rw [fp_lin hp l _ (lo _), fp_lin hp l (md (0 * 256 + c.toNat) p) (lo _), md_sh, md_sh, Nat.zero_mul, Nat.zero_add, add8 f _ hc]
    have e : (f * 256 ^^^ c.toNat) * 2 ^ (8 * l.length) = f * 2 ^ (8 * (c :: l).length) ^^^ c.toNat * 2 ^ (8 * l.length) := by
      rw [← cm_shift, cm_xr, cm_shift, cm_shift, Nat.mul_assoc]
      rw [show 256 * 2 ^ (8 * l.length) = 2 ^ (8 * (c :: l).length) by rw [show (256 : Nat) = 2 ^ 8 from rfl, ← Nat.pow_add, List.length_cons]; congr 1; omega]
    rw [e, md_x, x_assoc]
/-- what rolls out takes away what rolled in -/
theorem fp_out {p : Nat} (hp : p.log2 = 31) (d : UInt8) (l : List UInt8) (hl : l.length = 15) : fp p (d :: l) ^^^ FV p d.toNat = fp p l := by
  have hd : d.toNat < 256 := d.toNat_lt
  show fpF p (md (0 * 256 + d.toNat) p) l ^^^ FV p d.toNat = fp p l
  rw [Nat.zero_mul, Nat.zero_add, md_small hp (by omega), fp_lin hp l _ (by omega), hl, FV_eq hp, show 8 * 15 = 120 from rfl, x_comm (md _ p), x_assoc, Nat.xor_self, Nat.xor_zero]
  rfl
/-- a roller that has rolled: its window -/
def RolS (w : World) (r b p : Nat) (win : List UInt8) : Prop := ∃ (L : Nat → Nat) (t : Nat), RolB w r b (fp p win) L t ∧ t < 16 ∧ win.length = 16 ∧ ∀ i, (h : i < win.length) → L ((t + i) % 16) = (win[i]).toNat
theorem RolS.drew (h : RolS w r b p win) : RolS w.drew r b p win := by
  obtain ⟨L, t, h1, h2⟩ := h
  exact ⟨L, t, h1.drew, h2⟩
theorem RolS.drewN (h : RolS w r b p win) (n : Nat) : RolS (w.drewN n) r b p win := by
  obtain ⟨L, t, h1, h2⟩ := h
  exact ⟨L, t, h1.drewN n, h2⟩
theorem RolS.grown {c : Nat} (h : RolS w r b p win) (hg : Grown c w w') (hne : r ≠ c) : RolS w' r b p win := by
  obtain ⟨L, t, h1, h2⟩ := h
  exact ⟨L, t, h1.grown hg hne, h2⟩
theorem RolS.lt (h : RolS w r b p win) : r < w.heap.size := by
  obtain ⟨L, t, h1, h2⟩ := h
  exact h1.lt
/-- sixteen noughts -/
def nought : List UInt8 := List.replicate 16 0
theorem fp_nought {p : Nat} (hp : p.log2 = 31) (n : Nat) : fp p (List.replicate n 0) = 0 := by
  induction n with
  | zero => rfl
  | succ n ih =>
    rw [List.replicate_succ']
    unfold fp at ih ⊢
    rw [fpF_snoc, ih]
    show md (0 * 256 + 0) p = 0
    rw [md_zero]
theorem RolS.start (hp : p.log2 = 31) (h : RolB w r b 0 (fun _ => 0) 0) : RolS w r b p nought := by
  refine ⟨fun _ => 0, 0, ?_, by omega, by simp [nought], fun i hi => by simp only [nought, List.getElem_replicate]; rfl⟩
  unfold nought
  rw [fp_nought hp]; exact h
/-- Next's answer and what it leaves -/
theorem next_s (win : List UInt8) (c : UInt8) (w : World) (hp : p.log2 = 31) (ht : TabB w b p 1 0 (AV p) (FV p)) (hr : RolS w r b p win) (hbr : r ≠ b) :
    Calls Try.prog 39 #[.pointer (some ⟨r, 0, none⟩), .int .u8 (c.toNat : Nat)] w fun e w' => e = .returned (.int .u64 (fp p (win.drop 1 ++ [c]) : Nat)) ∧ RolS w' r b p (win.drop 1 ++ [c]) ∧ Grown r w w' := by
  obtain ⟨L, t, h1, h2, h3, h4⟩ := hr
  obtain ⟨d, l, rfl⟩ : ∃ d l, win = d :: l := by
    cases win with
    | nil => simp at h3
    | cons d l => exact ⟨d, l, rfl⟩
  have hl : l.length = 15 := by simpa using h3
  have h0 : L t = d.toNat := by
    have := h4 0 (by simp)
    simpa [Nat.mod_eq_of_lt h2] using this
  have hx : fp p (d :: l) ^^^ FV p (L t) = fp p l := by rw [h0]; exact fp_out hp d l hl
  have hn := next_any (fp p (d :: l)) t c.toNat L w hp ht h1 hbr (fp_low hp _ 0 (by decide)) (by rw [hx]; exact fp_low hp _ 0 (by decide)) h2 (by rw [h0]; exact d.toNat_lt) c.toNat_lt
  have hf : md (fp p l * 256 + c.toNat) p = fp p (List.drop 1 (d :: l) ++ [c]) := by
    show _ = fpF p 0 (l ++ [c])
    rw [fpF_snoc]; rfl
  rw [hx, hf] at hn
  refine hn.mono ?_
  rintro e w' ⟨rfl, hr', hg⟩
  refine ⟨rfl, ⟨_, _, hr', Nat.mod_lt _ (by decide), by simp [hl], fun i hi => ?_⟩, hg⟩
  have hi2 : i < 16 := by simpa [hl] using hi
  unfold upd
  by_cases e : i = 15
  · subst e
    rw [if_pos (by omega)]
    simp [hl]
  · rw [if_neg (by omega)]
    have := h4 (i + 1) (by simp; omega)
    rw [show ((t + 1) % 16 + i) % 16 = (t + (i + 1)) % 16 by omega, this]
    simp [List.getElem_append_left (show i < l.length by omega)]
/-- the last sixteen bytes, noughts ahead -/
def last16 (l : List UInt8) : List UInt8 := (nought ++ l).drop l.length
theorem last16_nil : last16 [] = nought := by unfold last16; simp
theorem last16_len (l : List UInt8) : (last16 l).length = 16 := by unfold last16; rw [List.length_drop, List.length_append]; simp only [nought, List.length_replicate]; omega
theorem last16_snoc (l : List UInt8) (c : UInt8) : last16 (l ++ [c]) = (last16 l).drop 1 ++ [c] := by
  unfold last16
  rw [List.drop_drop, List.length_append, List.length_singleton, ← List.append_assoc, List.drop_append_of_le_length (by simp [nought])]
def LastPost (l : List UInt8) (w : World) (e : Ending) (w' : World) : Prop := ∃ A c, e = .returned (.slice A 16 c) ∧ Rd w' w'.heap.size A 16 (bv (last16 l)) ∧ Below w.heap.size w w'
end Go.Proofs.Ytjmgokjflfhohaa.rb
