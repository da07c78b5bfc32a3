/- The examples of chunk; what is the same. -/
import Derived.Test.YtjmgokjflfhohaaChD
namespace Go.Proofs.Ytjmgokjflfhohaa.ch
open Go.RowKit Mem rb
set_option linter.unusedVariables false
variable {w w' : World} {c r b p : Nat} {pend hist : List UInt8}
theorem sameL_any (A1 A2 : Option Addr) (n m c d B1 B2 : Nat) (ls rs : List (List UInt8)) (w : World) (h1 : Parts w B1 A1 n ls) (h2 : Parts w B2 A2 m rs) (hn : n ≤ 1048576) (hm : m ≤ 1048576) :
    Calls Try.prog 18 #[.slice A1 n c, .slice A2 m d] w fun e w' => e = .returned (.bool (decide (ls = rs))) ∧ w = w' := by
  have H := Lib.hid (same_any A1 A2 n m c d B1 B2 ls rs w h1 h2 hn hm)
  clear h1 h2
  go_enter Try.func18, Try.ntmps18
  go_wp2_with (go_at_call 28; refine H.out.mono ?_; rintro e w' ⟨rfl, rfl⟩)
  go_ret
  exact ⟨rfl, rfl⟩
def zs (n : Nat) : List UInt8 := List.replicate n 0
theorem zs_len (n : Nat) : (zs n).length = n := List.length_replicate
theorem last_zs (n : Nat) : last16 (zs n) = List.replicate 16 0 := by
  unfold last16 zs nought
  rw [List.length_replicate, List.replicate_append_replicate, List.drop_replicate, show 16 + n - n = 16 by omega]
theorem rule_zs (hp : p.log2 = 31) (n : Nat) : rule p (zs n) = decide (256 ≤ n) := by
  unfold rule
  rw [last_zs, fp_nought hp, show decide (0 % 64 = 63) = false from rfl, Bool.and_false, Bool.or_false]
  unfold zs
  rw [List.length_replicate]
theorem cut_zs (hp : p.log2 = 31) (n : Nat) (h : 256 ≤ n) : cutF (rule p) [] (zs n) = (zs 256 :: (cutF (rule p) [] (zs (n - 256))).1, (cutF (rule p) [] (zs (n - 256))).2) := by
  have ht : ∀ m, m ≤ n → (zs n).take m = zs m := fun m hm => by unfold zs; rw [List.take_replicate, Nat.min_eq_left hm]
  have hd : (zs n).drop 256 = zs (n - 256) := by unfold zs; rw [List.drop_replicate]
  have h1 := cut_at (e := rule p) 256 (zs n) [] (by decide) (by unfold zs; rw [List.length_replicate]; exact h) (fun m h0 h2 => by
    rw [List.nil_append, ht m (by omega), rule_zs hp]; exact decide_eq_false (by omega)) (by rw [List.nil_append, ht 256 h, rule_zs hp]; exact decide_eq_true (by omega))
  rw [h1, List.nil_append, ht 256 h, hd]
theorem cut_zs0 (hp : p.log2 = 31) (n : Nat) (h : n < 256) : cutF (rule p) [] (zs n) = ([], zs n) := by
  have h1 := cut_none (e := rule p) (zs n) [] (fun m h0 h2 => by
    have h3 : m ≤ n := by unfold zs at h2; rwa [List.length_replicate] at h2
    rw [List.nil_append, show (zs n).take m = zs m by unfold zs; rw [List.take_replicate, Nat.min_eq_left h3], rule_zs hp]; exact decide_eq_false (by omega))
  rw [h1, List.nil_append]
theorem all_zs (hp : p.log2 = 31) : allF (rule p) (zs 600) = [zs 256, zs 256, zs 88] := by
  have h : cutF (rule p) [] (zs 600) = ([zs 256, zs 256], zs 88) := by
    rw [cut_zs hp 600 (by decide), show 600 - 256 = 344 from rfl, cut_zs hp 344 (by decide), show 344 - 256 = 88 from rfl, cut_zs0 hp 88 (by decide)]
  unfold allF
  rw [h, if_neg (by unfold zs; simp)]; rfl
theorem all_nil : allF (rule p) [] = [] := by unfold allF; rw [cut_nil]; rfl
theorem awake_any (w : World) :
    Calls Try.prog 12 #[] w fun e w' => e = .returned (.bool true) ∧ Below w.heap.size w w' := by
  have hq := good_log (tq_good 0)
  have hT := fresh_tab (tq 0) w
  have hb : Below w.heap.size w (w.alloc (.cells (freshT (tq 0)) 75)) := (Below.refl _ w).alloc (Nat.le_refl _) _
  have hsz : (w.alloc (.cells (freshT (tq 0)) 75)).heap.size = w.heap.size + 1 := by simp
  have HT := fun w => Lib.hid (table_any 0 w (by decide))
  obtain ⟨q, hqd⟩ : ∃ q, tq 0 = q := ⟨_, rfl⟩
  unfold TablePost at HT
  rw [hqd] at hq hT hb hsz HT
  clear hqd
  have HS := Lib.hid (And.intro hb hsz)
  clear hb hsz
  go_enter Try.func12, Try.ntmps12
  go_wp2_with fail
  refine (HT w).out.mono ?_
  rintro e w1 ⟨rfl, hw1⟩
  rw [← hw1] at hT HS
  clear hw1 HT
  go_wp2_with (refine wp_make u8ty rfl (.const (.int .i64 600)) (.const (.int .i64 600)) rfl rfl rfl (by omega) (by omega) (by omega) (by omega) (base := w1.heap.size) (Nat.le_refl _) ?_; intro g N C w2 hN hC ho hb hg hgs; have hN2 : N = 600 := (by omega); have hC2 : C = 600 := (by omega); subst hN2 hC2 hgs; clear hN hC hg)
  have s1 := HS.out.2
  have hz : List.replicate 600 (Value.int .u8 0) = bv (zs 600) := by unfold zs bv; rw [List.map_replicate]; rfl
  rw [hz] at ho
  have hT2 := hT.below hb (by omega)
  refine (all_any (some ⟨w1.heap.size, 0, none⟩) 600 600 w2.heap.size (zs 600) w2 hq (Or.inl hT2) (fun w' hk => hk.rd ho.rd (Nat.le_refl _) (fun a e h => by
    injection e with e; subst e
    have h2 : w1.heap.size = w.heap.size := h
    omega)) (by omega)).mono ?_
  rintro e w3 ⟨A, n, k, vs, rfl, hA⟩
  have hP := hA.rows.parts hA.row
  rw [all_zs hq] at hP
  have hn := hP.len
  obtain rfl : n = 3 := hn.symm
  obtain ⟨g, o, A0, n0, k0, x0, rfl, _, hc0, _, _, ⟨_, hx0⟩, hl0⟩ := hP.at_ (k := 0) (by omega)
  obtain ⟨g2, o2, A2, n2, k2, x2, e2, _, hc2, _, _, ⟨_, hx2⟩, hl2⟩ := hP.at_ (k := 2) (by omega)
  injection e2 with e2; injection e2 with e3 e4 e5
  subst e3 e4
  have hn0 : n0 = 256 := by rw [hl0, ← hx0]; exact zs_len 256
  have hn2 : n2 = 88 := by rw [hl2, ← hx2]; exact zs_len 88
  subst hn0 hn2
  rw [Nat.add_zero] at hc0
  have hT3 := hA.tab
  have hb3 : Below w.heap.size w w3 := hA.kept.below (HS.out.1.trans (hb.mono (by omega))) (by have := hb.size; omega) (fun i hi e => by omega)
  have hs3 := hb3.size
  clear hl0 hl2 hx0 hx2 hP hA hT2 hz ho hb
  have hfin : Hid (Calls Try.prog 15 #[.pointer (some ⟨w.heap.size, 0, none⟩), .slice none 0 0] w3 (AllPost w.heap.size q [] w3)) := Lib.hid (all_any none 0 0 w.heap.size [] w3 hq (Or.inr hT3) (fun w' _ => Rd.nil _ _ _) (by omega))
  go_wp2_with (first
    | (go_at_call 15; refine hfin.out.mono ?_; rintro e w4 ⟨A9, n9, k9, vs9, rfl, hA9⟩; have hz9 := (hA9.rows.parts hA9.row).len; rw [all_nil] at hz9; have hz9' : n9 = 0 := (by simpa using hz9.symm); subst hz9'; clear hz9))
  go_ret
  exact ⟨rfl, hA9.kept.below hb3 hs3 (fun i hi e => by omega)⟩
#print axioms awake_any
end Go.Proofs.Ytjmgokjflfhohaa.ch
