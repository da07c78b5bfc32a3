/- A store as a list of chunks; a ring of numbers. No program is named here. -/
import Derived.WalkKit
namespace Go.Proofs.Ytnmifaohmafobaa.SM
def upd (f : Nat → Nat) (i x : Nat) : Nat → Nat := fun j => if j = i then x else f j
theorem upd_same (f : Nat → Nat) (i x : Nat) : upd f i x i = x := by simp [upd]
theorem upd_other (f : Nat → Nat) {i j : Nat} (x : Nat) (h : j ≠ i) : upd f i x j = f j := by simp [upd, h]
/-- behind a stand these, and behind the last one the ring's end -/
def Chain (ah bh : Nat → Nat) : Nat → List Nat → Prop
  | a, [] => bh a = 0 ∧ ah 0 = a
  | a, n :: l => bh a = n ∧ ah n = a ∧ Chain ah bh n l
theorem chain_congr {ah bh ah' bh' : Nat → Nat} : ∀ (l : List Nat) (a : Nat), Chain ah bh a l → (∀ x ∈ a :: l, bh' x = bh x) → (∀ x ∈ 0 :: l, ah' x = ah x) → Chain ah' bh' a l
  | [], a, h, hb, ha => ⟨by rw [hb a (by simp)]; exact h.1, by rw [ha 0 (by simp)]; exact h.2⟩
  | n :: l, a, h, hb, ha => ⟨by rw [hb a (by simp)]; exact h.1, by rw [ha n (by simp)]; exact h.2.1,
      chain_congr l n h.2.2 (fun x hx => hb x (List.mem_cons_of_mem _ hx)) (fun x hx => ha x (by
        rcases List.mem_cons.1 hx with e | e
        · rw [e]; simp
        · exact List.mem_cons_of_mem _ (List.mem_cons_of_mem _ e)))⟩
theorem chain_last {ah bh : Nat → Nat} : ∀ (l : List Nat) (a : Nat), Chain ah bh a l → ah 0 ∈ a :: l
  | [], a, h => by rw [h.2]; simp
  | n :: l, a, h => List.mem_cons_of_mem _ (chain_last l n h.2.2)
theorem chain_next {ah bh : Nat → Nat} : ∀ (l : List Nat) (a : Nat), Chain ah bh a l → bh a ∈ 0 :: l
  | [], a, h => by rw [h.1]; simp
  | n :: l, a, h => by rw [h.1]; simp
theorem chain_at {ah bh : Nat → Nat} (n : Nat) (ys : List Nat) : ∀ (xs : List Nat) (a : Nat), Chain ah bh a (xs ++ n :: ys) → ah n ∈ a :: xs ∧ bh n ∈ 0 :: ys ∧ Chain ah bh n ys
  | [], a, h => ⟨by rw [h.2.1]; simp, chain_next _ _ h.2.2, h.2.2⟩
  | x :: xs, a, h => by
    obtain ⟨h1, h2, h3⟩ := chain_at n ys xs x h.2.2
    exact ⟨List.mem_cons_of_mem _ h1, h2, h3⟩
theorem chain_unlink {ah bh : Nat → Nat} (n : Nat) (ys : List Nat) : ∀ (xs : List Nat) (a : Nat), Chain ah bh a (xs ++ n :: ys) → (a :: (xs ++ n :: ys)).Nodup → 0 ∉ xs ++ n :: ys →
    Chain (upd ah (bh n) (ah n)) (upd bh (ah n) (bh n)) a (xs ++ ys)
  | [], a, h, hd, h0 => by
    simp only [List.nil_append] at h hd h0 ⊢
    obtain ⟨h1, h2, h3⟩ := h
    cases ys with
    | nil =>
      obtain ⟨k1, k2⟩ := h3
      refine ⟨by rw [h2, upd_same, k1], by rw [k1, h2, upd_same]⟩
    | cons y zs =>
      obtain ⟨k1, k2, k3⟩ := h3
      rw [k1, h2]
      simp only [List.nodup_cons, List.mem_cons, not_or] at hd h0
      obtain ⟨⟨d1, d2, d3⟩, ⟨d4, d5⟩, d6, d7⟩ := hd
      refine ⟨upd_same _ _ _, upd_same _ _ _, chain_congr zs y k3 (fun x hx => upd_other _ _ ?_) (fun x hx => upd_other _ _ ?_)⟩
      · rintro rfl
        rcases List.mem_cons.1 hx with e | e
        · exact d2 e
        · exact d3 e
      · rintro rfl
        rcases List.mem_cons.1 hx with e | e
        · exact h0.2.1 e.symm
        · exact d6 e
  | x :: xs, a, h, hd, h0 => by
    simp only [List.cons_append] at h hd h0 ⊢
    obtain ⟨h1, h2, h3⟩ := h
    obtain ⟨m1, m2, m3⟩ := chain_at n ys xs x h3
    have hd' : (x :: (xs ++ n :: ys)).Nodup := (List.nodup_cons.1 hd).2
    have hda := (List.nodup_cons.1 hd).1
    have hdx := (List.nodup_cons.1 hd').1
    have h0' : 0 ∉ xs ++ n :: ys := fun e => h0 (List.mem_cons_of_mem _ e)
    refine ⟨?_, ?_, chain_unlink n ys xs x h3 hd' h0'⟩
    · rw [upd_other]
      · exact h1
      · rintro rfl
        apply hda
        rcases List.mem_cons.1 m1 with e | e
        · rw [e]; simp
        · exact List.mem_cons_of_mem _ (List.mem_append_left _ e)
    · rw [upd_other]
      · exact h2
      · rintro rfl
        rcases List.mem_cons.1 m2 with e | e
        · apply h0; rw [e]; simp
        · exact hdx (List.mem_append_right _ (List.mem_cons_of_mem _ e))
theorem chain_link {ah bh : Nat → Nat} (n : Nat) (hn0 : n ≠ 0) : ∀ (l : List Nat) (a : Nat), Chain ah bh a l → (a :: l).Nodup → 0 ∉ l → n ∉ a :: l →
    Chain (upd (upd ah n (ah 0)) 0 n) (upd (upd bh n 0) (ah 0) n) a (l ++ [n])
  | [], a, h, hd, h0, hn => by
    obtain ⟨h1, h2⟩ := h
    have hna : n ≠ a := fun e => hn (by rw [e]; simp)
    rw [h2]
    refine ⟨upd_same _ _ _, by rw [upd_other _ _ hn0, upd_same], by rw [upd_other _ _ hna, upd_same], upd_same _ _ _⟩
  | x :: l, a, h, hd, h0, hn => by
    obtain ⟨h1, h2, h3⟩ := h
    have hd' := (List.nodup_cons.1 hd).2
    have hda := (List.nodup_cons.1 hd).1
    have hl := chain_last l x h3
    refine ⟨?_, ?_, chain_link n hn0 l x h3 hd' (fun e => h0 (List.mem_cons_of_mem _ e)) (fun e => hn (List.mem_cons_of_mem _ e))⟩
    · rw [upd_other, upd_other]
      · exact h1
      · rintro rfl; exact hn (by simp)
      · intro e; exact hda (by rw [e]; exact hl)
    · rw [upd_other, upd_other]
      · exact h2
      · rintro rfl; exact hn (by simp)
      · rintro rfl; exact h0 (by simp)
theorem chain_use {ah bh : Nat → Nat} (n : Nat) (xs ys : List Nat) (h : Chain ah bh 0 (xs ++ n :: ys)) (hd : (0 :: (xs ++ n :: ys)).Nodup) :
    Chain (upd (upd (upd ah (bh n) (ah n)) n (upd ah (bh n) (ah n) 0)) 0 n) (upd (upd (upd bh (ah n) (bh n)) n 0) (upd ah (bh n) (ah n) 0) n) 0 (xs ++ ys ++ [n]) := by
  have h0 := (List.nodup_cons.1 hd).1
  have hd1 := (List.nodup_cons.1 hd).2
  have hu := chain_unlink n ys xs 0 h hd h0
  have hsub : (xs ++ ys).Sublist (xs ++ n :: ys) := (List.Sublist.refl xs).append (List.sublist_cons_self _ _)
  have hnot : n ∉ xs ++ ys := by
    rw [List.nodup_append] at hd1
    obtain ⟨a1, a2, a3⟩ := hd1
    intro e
    rcases List.mem_append.1 e with e | e
    · exact a3 n e n (by simp) rfl
    · exact (List.nodup_cons.1 a2).1 e
  have hn0 : n ≠ 0 := by rintro rfl; exact h0 (by simp)
  refine chain_link n hn0 (xs ++ ys) 0 hu ((List.Sublist.cons_cons 0 hsub).nodup hd) (fun e => h0 (hsub.subset e)) ?_
  intro e
  rcases List.mem_cons.1 e with e | e
  · exact hn0 e
  · exact hnot e
/-- a chunk -/
structure Ent where
  sum : List UInt8
  data : List UInt8
  held : Nat
def sums (L : List Ent) : List (List UInt8) := L.map (·.sum)
def total (L : List Ent) : Nat := (L.map (·.data.length)).sum
def fixedN (L : List Ent) : Nat := (L.filter (fun e => decide (0 < e.held))).length
def fixedS (L : List Ent) : Nat := total (L.filter (fun e => decide (0 < e.held)))
def isFree (e : Ent) : Bool := e.held == 0
/-- a chunk is used -/
def use (s : List UInt8) (L : List Ent) : List Ent := L.filter (fun e => e.sum != s) ++ L.filter (fun e => e.sum == s)
def pin (s : List UInt8) (L : List Ent) : List Ent := L.map fun e => if e.sum = s then { e with held := e.held + 1 } else e
def unpin (s : List UInt8) (L : List Ent) : List Ent := L.map fun e => if e.sum = s then { e with held := e.held - 1 } else e
def evict (s : List UInt8) (L : List Ent) : List Ent := L.filter (fun e => e.sum != s)
/-- as long as there is too little room, the first that is not held goes -/
def shrink (M R d : Nat) : Nat → List Ent → List Ent
  | 0, L => L
  | k + 1, L => if M ≤ L.length ∨ R < total L + d then shrink M R d k (L.eraseP isFree) else L
def find (s : List UInt8) (L : List Ent) : Option Ent := L.find? (fun e => e.sum == s)
theorem total_append (L K : List Ent) : total (L ++ K) = total L + total K := by simp [total]
theorem total_cons (e : Ent) (K : List Ent) : total (e :: K) = e.data.length + total K := by simp [total]
theorem fixedN_snoc (L : List Ent) (e : Ent) : fixedN (L ++ [e]) = fixedN L + if 0 < e.held then 1 else 0 := by
  unfold fixedN
  rw [List.filter_append, List.length_append]
  by_cases h : 0 < e.held <;> simp [h]
theorem fixedS_snoc (L : List Ent) (e : Ent) : fixedS (L ++ [e]) = fixedS L + if 0 < e.held then e.data.length else 0 := by
  unfold fixedS
  rw [List.filter_append, total_append]
  by_cases h : 0 < e.held <;> simp [h, total]
theorem fixedN_le (L : List Ent) : fixedN L ≤ L.length := List.length_filter_le _ _
theorem total_le (B : Nat) : ∀ L : List Ent, (∀ e ∈ L, e.data.length ≤ B) → total L ≤ L.length * B
  | [], _ => by simp [total]
  | e :: L, h => by
    have h1 := h e (by simp)
    have h2 := total_le B L (fun x hx => h x (by simp [hx]))
    rw [total_cons, List.length_cons, Nat.succ_mul]
    omega
theorem fixedS_le (B : Nat) (L : List Ent) (h : ∀ e ∈ L, e.data.length ≤ B) : fixedS L ≤ L.length * B := by
  unfold fixedS
  refine Nat.le_trans (total_le B _ (fun e he => h e (List.mem_filter.1 he).1)) (Nat.mul_le_mul_right _ (List.length_filter_le _ _))
end Go.Proofs.Ytnmifaohmafobaa.SM
