/- A reader that a call made: what it has, and what each read tells and leaves. -/
import Derived.Test.YtbcgnacfhpahkaaDoorLoB
import Derived.Test.YtbcgnacfhpahkaaDoorOctLook
import Derived.Test.YtbcgnacfhpahkaaDoorOctLen
import Derived.Lib.BitFns
namespace Go.Proofs.YtbcgnacfhpahkaaDoor.oct
open Go.RowKit Mem OM
set_option linter.unusedVariables false
/-- what the world keeps, but for one block -/
structure Keep1 (w w' : World) (b : Nat) : Prop where
  os : w'.os = w.os
  tape : w'.tape = w.tape
  output : w'.output = w.output
  size : w.heap.size ≤ w'.heap.size
  block : ∀ k, k < w.heap.size → k ≠ b → w'.heap[k]? = w.heap[k]?
theorem Keep1.refl (w : World) (b : Nat) : Keep1 w w b := ⟨rfl, rfl, rfl, Nat.le_refl _, fun _ _ _ => rfl⟩
theorem Keep1.trans {w w1 w2 : World} {b : Nat} (h : Keep1 w w1 b) (k : Keep1 w1 w2 b) : Keep1 w w2 b :=
  ⟨k.os.trans h.os, k.tape.trans h.tape, k.output.trans h.output, Nat.le_trans h.size k.size, fun i hi hn => (k.block i (Nat.lt_of_lt_of_le hi h.size) hn).trans (h.block i hi hn)⟩
theorem Keep1.set (w : World) (b o : Nat) (v : Value) : Keep1 w (w.setCell ⟨b, o, none⟩ v) b := ⟨rfl, rfl, rfl, by rw [World.size_setCell]; exact Nat.le_refl _, fun i hi hn => Below.heap_setCell _ _ _ _ hn⟩
theorem Keep1.of {w w' : World} {b : Nat} (h : Below w.heap.size w w') : Keep1 w w' b := ⟨h.os, h.tape, h.output, h.size, fun i hi _ => h.block i hi⟩
theorem Keep1.below {B b : Nat} {w0 w w' : World} (h : Below B w0 w) (k : Keep1 w w' b) (hB : B ≤ w.heap.size) (hb : B ≤ b) : Below B w0 w' :=
  h.trans ⟨k.os, k.tape, k.output, k.size, fun i hi => k.block i (by omega) (by omega)⟩
theorem Keep1.cell {w w' : World} {b : Nat} (h : Keep1 w w' b) {a : Addr} (hl : a.block < w.heap.size) (hb : a.block ≠ b) : w'.cell? a = w.cell? a := World.cell?_of_block (w := w) (h.block a.block hl hb)
theorem Keep1.rd {w w' : World} {b B n : Nat} {A : Option Addr} {xs : List Value} (h : Keep1 w w' b) (hr : Rd w B A n xs) (hB : B ≤ w.heap.size) (hne : 0 < n → ∀ a, A = some a → a.block ≠ b) : Rd w' B A n xs := by
  refine ⟨hr.len, fun hn => ?_⟩
  obtain ⟨c, off, rfl, hc, hcell⟩ := hr.addr hn
  refine ⟨c, off, rfl, hc, fun k hk => ?_⟩
  have hcb : c ≠ b := hne hn _ rfl
  rw [h.cell (a := ⟨c, off + k, none⟩) (show c < w.heap.size by omega) hcb]
  exact hcell k hk
theorem Keep1.ow {w w' : World} {b B n c : Nat} {E : TypeId} {A : Option Addr} {xs : List Value} (h : Keep1 w w' b) (ho : Ow w B E A n c xs) (hb : b < B) : Ow w' B E A n c xs := by
  refine Ow.kept (row := some b) ho ⟨h.os, h.tape, h.output, h.size, fun k hk hne => h.block k hk (fun e => hne (by rw [e]))⟩ ?_
  cases hA : blk A with
  | none => exact Or.inl rfl
  | some a =>
    refine Or.inr fun e => ?_
    injection e with e
    have := ho.blk_lt a hA
    omega
/-- a reader at block b that has l before it -/
structure Rdr (w : World) (b : Nat) (l : List UInt8) : Prop where
  c0 : w.cell? ⟨b, 0, none⟩ = some (.bool true)
  ex : ∃ A n c, w.cell? ⟨b, 1, none⟩ = some (.slice A n c) ∧ Rd w w.heap.size A n (bv l) ∧ n ≤ c ∧ n ≤ 1099511627776 ∧ (0 < n → ∀ a, A = some a → a.block < b)
  fz : ∀ o, w.frozen? ⟨b, o, none⟩ = false
  lt : b < w.heap.size
theorem Rdr.below {w w' : World} {b : Nat} {l : List UInt8} (h : Rdr w b l) (hb : Below w.heap.size w w') : Rdr w' b l := by
  obtain ⟨A, n, c, h1, h2, h3, h4, h5⟩ := h.ex
  exact ⟨(hb.cell (p := ⟨b, 0, none⟩) h.lt).trans h.c0, ⟨A, n, c, (hb.cell (p := ⟨b, 1, none⟩) h.lt).trans h1, (h2.below hb (Nat.le_refl _)).more hb.size, h3, h4, h5⟩, fun o => (World.frozen?_of_block (w := w) (hb.block b h.lt)).trans (h.fz o), Nat.lt_of_lt_of_le h.lt hb.size⟩
theorem Rdr.on {w w' : World} {b B : Nat} {l : List UInt8} (h : Rdr w b l) (hb : Below B w w') (hB : b < B) (hs : w.heap.size ≤ w'.heap.size) : Rdr w' b l := by
  obtain ⟨A, n, c, h1, h2, h3, h4, h5⟩ := h.ex
  refine ⟨(hb.cell (p := ⟨b, 0, none⟩) hB).trans h.c0, ⟨A, n, c, (hb.cell (p := ⟨b, 1, none⟩) hB).trans h1, ⟨h2.len, fun hn => ?_⟩, h3, h4, h5⟩, fun o => (World.frozen?_of_block (w := w) (hb.block b hB)).trans (h.fz o), Nat.lt_of_lt_of_le h.lt hs⟩
  obtain ⟨g, off, rfl, hg, hc⟩ := h2.addr hn
  have := h5 hn _ rfl
  exact ⟨g, off, rfl, Nat.lt_of_lt_of_le hg hs, fun k hk => (hb.cell (p := ⟨g, off + k, none⟩) (Nat.lt_trans this hB)).trans (hc k hk)⟩
theorem Rdr.len {w : World} {b : Nat} {l : List UInt8} (h : Rdr w b l) : l.length ≤ 1099511627776 := by
  obtain ⟨A, n, c, h1, h2, h3, h4, h5⟩ := h.ex
  have := h2.len
  rw [bv_len] at this
  omega
theorem left_any (b : Nat) (l : List UInt8) (w : World) (h : Rdr w b l) :
    Calls Tryd.prog 84 #[.pointer (some ⟨b, 0, none⟩)] w fun e w' => e = .returned (.int .i64 l.length) ∧ w = w' := by
  obtain ⟨A, n, c, h1, h2, h3, h4, h5⟩ := h.ex
  have h0 := h.c0
  have hl : l.length = n := by rw [← h2.len, bv_len]
  rw [hl]
  clear h h2 h5
  go_enter Tryd.func84, Tryd.ntmps84
  go_wp2
  go_ret
  exact ⟨rfl, rfl⟩
/-- what skipping leaves -/
theorem skip_any (b k : Nat) (l : List UInt8) (w : World) (h : Rdr w b l) (hk : k ≤ l.length) :
    Calls Tryd.prog 89 #[.pointer (some ⟨b, 0, none⟩), .int .i64 k] w fun e w' => e = .returned (.tuple #[]) ∧ Rdr w' b (l.drop k) ∧ Keep1 w w' b := by
  obtain ⟨A, n, c, h1, h2, h3, h4, h5⟩ := h.ex
  have h0 := h.c0
  have hz := h.fz
  have hz1 := hz 1
  have hlt := h.lt
  have hl : l.length = n := by rw [← h2.len, bv_len]
  rw [hl] at hk
  have H5 := Lib.hid h5
  have HZ := Lib.hid hz
  have HL := Lib.hid hl
  clear h hz h5 hl
  go_enter Tryd.func89, Tryd.ntmps89
  go_wp2_with (refine wp_cut_l u8ty rfl (.tmp 8) (.tmp 9) rfl rfl rfl h2 (by omega) (by omega) h3 ?_; intro A' n' c' hn' hc' h2' hA')
  go_end0
  refine ⟨rfl, ?_, Keep1.set _ _ _ _⟩
  have hk1 := Keep1.set w b 1 (.slice A' n' c')
  have hA2 : 0 < n' → ∀ a, A' = some a → a.block < b := fun hp a ha => by
    rw [hA' hp] at ha
    cases A with
    | none => cases ha
    | some a0 =>
      injection ha with ha
      subst ha
      have := H5.out (by omega) a0 rfl
      show (a0.add _).block < b
      rw [show (a0.add (k : Int).toNat).block = a0.block by unfold Addr.add; split <;> rfl]
      exact this
  have hlen := HL.out
  refine ⟨?_, ⟨A', n', c', ?_, ?_, by omega, by omega, hA2⟩, fun o => ?_, by rw [World.size_setCell]; exact hlt⟩
  · go_simp
  · go_simp
  · rw [World.size_setCell]
    refine hk1.rd ?_ (Nat.le_refl _) (fun hp a ha => Nat.ne_of_lt (hA2 hp a ha))
    rw [bv_drop]
    exact h2'
  · rw [World.frozen?_setCell]
    exact HZ.out o
theorem ones_lead (x : Nat) (h : x < 256) : 8 - Lib.bitLen (255 - x) = ones x ∧ Lib.bitLen (255 - x) ≤ 8 := by
  have key : ∀ x : Fin 256, 8 - Lib.bitLen (255 - x.val) = ones x.val ∧ Lib.bitLen (255 - x.val) ≤ 8 := by decide +kernel
  exact key ⟨x, h⟩
theorem first_and (x : Nat) (h : x < 256) : IntKind.u64.wrap (bits BinOp.and IntKind.u8 (x : Int) ((127 : Int) / 2 ^ ones x)) = ((x - lead (ones x) : Nat) : Int) := by
  have key : ∀ x : Fin 256, IntKind.u64.wrap (bits BinOp.and IntKind.u8 (x.val : Int) ((127 : Int) / 2 ^ ones x.val)) = ((x.val - lead (ones x.val) : Nat) : Int) := by decide +kernel
  exact key ⟨x, h⟩
theorem not_u8 (x : Nat) (h : x < 256) : bits BinOp.xor IntKind.u8 IntKind.u8.max (x : Int) = ((255 - x : Nat) : Int) := by
  have key : ∀ x : Fin 256, bits BinOp.xor IntKind.u8 IntKind.u8.max (x.val : Int) = ((255 - x.val : Nat) : Int) := by decide +kernel
  exact key ⟨x, h⟩
theorem or_num (m x : Nat) (hm : m < 72057594037927936) (hx : x < 256) : bits BinOp.or IntKind.u64 ((m : Int) * 256) (x : Int) = (m : Int) * 256 + (x : Int) := by
  have e : ((m : Int) * 256) = ((2 ^ 8 * m : Nat) : Int) := by simp; omega
  rw [e, u64_or_nat _ _ (by omega) (by omega), ← Nat.two_pow_add_eq_or_of_lt (i := 8) (by omega) m]
  simp
/-- what looking ahead tells -/
def AheadPost (l : List UInt8) (w : World) (e : Ending) (w' : World) : Prop := e = .returned (.tuple #[.int .i64 ((lk l).1 : Nat), .int .i64 ((lk l).2.1 : Nat), .int .i64 ((lk l).2.2 : Nat)]) ∧ w = w'
theorem ahead_any (b : Nat) (l : List UInt8) (w : World) (h : Rdr w b l) :
    Calls Tryd.prog 88 #[.pointer (some ⟨b, 0, none⟩)] w (AheadPost l w) := by
  obtain ⟨A, n, c, h1, h2, h3, h4, h5⟩ := h.ex
  have h0 := h.c0
  have hl : l.length = n := by rw [← h2.len, bv_len]
  clear h h5
  unfold AheadPost
  cases l with
  | nil =>
    simp at hl
    subst hl
    go_enter Tryd.func88, Tryd.ntmps88
    go_wp2
    go_ret3
    exact ⟨rfl, rfl⟩
  | cons x r =>
    have hx := x.toNat_lt
    have hlen : r.length + 1 = n := by simpa using hl
    have hp : 0 < n := by omega
    have hpi : ¬ ((n : Int) = 0) := by omega
    obtain ⟨b1, o1, rfl, _, hc1⟩ := h2.addr hp
    have hc0 := hc1 0 hp
    rw [bv_at _ 0 (by simp)] at hc0
    simp only [List.getElem_cons_zero, Nat.add_zero] at hc0
    obtain ⟨k, hk⟩ : ∃ k, ones x.toNat = k := ⟨_, rfl⟩
    have h8 : k ≤ 8 := by rw [← hk]; exact ones_le _
    have e1 := ones_lead x.toNat hx
    have e2 := first_and x.toNat hx
    rw [hk] at e1 e2
    obtain ⟨X, hX⟩ : ∃ X, x.toNat = X := ⟨_, rfl⟩
    rw [hX] at hc0 e1 e2 hx
    go_enter Tryd.func88, Tryd.ntmps88
    have hL : ∀ w : World, Calls Tryd.prog 95 #[.int .u8 (bits BinOp.xor IntKind.u8 IntKind.u8.max (X : Int))] w fun e w' => e = .returned (.int .i64 (k : Nat)) ∧ w = w' := by
      intro w
      rw [not_u8 X hx]
      refine (lead8 _ w (by omega) (by omega)).mono ?_
      rintro e w' ⟨rfl, rfl⟩
      refine ⟨?_, rfl⟩
      rw [Int.toNat_natCast]
      congr 2
      omega
    have HL := Lib.hid hL
    have E1 := Lib.hid e1
    have E2 := Lib.hid e2
    have HX := Lib.hid hX
    have HK := Lib.hid hk
    clear hL e1 e2 hX hk
    by_cases hs : r.length < k
    · have hs2 : (n : Int) - 1 < (k : Int) := by omega
      have hlk : lk (x :: r) = (0, 0, 2) := by rw [look_cons, HK.out, if_pos hs]
      have HLK := Lib.hid hlk
      clear hlk
      go_wp2_with (go_at_call 95; refine (HL.out _).mono ?_; rintro e w' ⟨rfl, rfl⟩)
      go_ret3
      rw [HLK.out]
      exact ⟨rfl, rfl⟩
    · have hs2 : ¬ ((n : Int) - 1 < (k : Int)) := by omega
      go_wp2_with (go_at_call 95; refine (HL.out _).mono ?_; rintro e w' ⟨rfl, rfl⟩)
      go_loop [7, 8, 47] (fun u _ i => ∃ m j : Nat, u = .int .u64 m ∧ i = .int .i64 j ∧ j ≤ k ∧ Hid (m = prt (x :: r) k j)) (fun _ _ i => k - (intOf i).toNat)
      case atStart => exact ⟨X - lead k, 0, congrArg (Value.int IntKind.u64) E2.out, rfl, by omega, Lib.hid (by rw [prt_zero, HX.out])⟩
      case round =>
        obtain ⟨m, j, rfl, rfl, hj, Hm⟩ := hrel
        by_cases hlt : j < k
        · have hjr : j < r.length := by omega
          have hjn : 1 + j < n := by omega
          have hcj := hc1 (1 + j) hjn
          have hst := part_step (k := k) rfl HK.out hjr
          have hpl := (part_lt (k := k) (j := j) (l := x :: r) rfl HK.out (by omega) hj).2 hlt
          rw [← Hm.out] at hst hpl
          obtain ⟨z, hz⟩ : ∃ z, z = (r[j]).toNat := ⟨_, rfl⟩
          have hz8 : z < 256 := by rw [hz]; exact UInt8.toNat_lt _
          rw [← hz] at hst
          have HZ := Lib.hid hz
          have HST := Lib.hid hst
          have hcj2 : w.cell? ⟨b1, o1 + (1 + j), none⟩ = some (.int .u8 z) := by
            rw [hcj, bv_at _ (1 + j) (by simp; omega), hz]
            simp [Nat.add_comm 1 j]
          clear hcj hst hz hc1
          have hk1 : (j : Int) < (k : Int) := by omega
          have hor : bits BinOp.or IntKind.u64 ((m : Int) * 256) (z : Int) = (m : Int) * 256 + (z : Int) := or_num m z (by omega) hz8
          go_wp2_with fail
          go_round
          case rel => exact ⟨256 * m + z, j + 1, by simp; omega, by go_num, by omega, Lib.hid HST.out.1.symm⟩
          case measure => simp [intOf]; omega
        · obtain rfl : j = k := by omega
          have hr1 : raw (x :: r) j = m := by rw [← part_last, Hm.out]
          have hlk := look_cons x r
          rw [HK.out, if_neg hs, hr1] at hlk
          by_cases hm : 9223372036854775807 < m
          · rw [if_pos hm] at hlk
            have hm2 : (9223372036854775807 : Int) < (m : Int) := by omega
            have HLK := Lib.hid hlk
            clear hlk hr1
            go_wp2_with fail
            go_ret3
            rw [HLK.out]
            exact ⟨rfl, rfl⟩
          · rw [if_neg hm] at hlk
            have hm2 : ¬ (9223372036854775807 : Int) < (m : Int) := by omega
            have hfo := fun w : World => follow_any (m : Int) w (by omega) (by omega)
            rw [Int.toNat_natCast] at hfo
            have HFO := Lib.hid hfo
            by_cases hf : fol m = j
            · rw [if_neg (by simpa using hf)] at hlk
              rw [hf] at hfo
              rw [Nat.add_comm j 1] at hlk
              have HFO := Lib.hid hfo
              have HLK := Lib.hid hlk
              clear hlk hr1 hfo
              go_wp2_with (go_at_call 87; refine (HFO.out _).mono ?_; rintro e w' ⟨rfl, rfl⟩)
              go_ret3
              rw [HLK.out]
              exact ⟨rfl, rfl⟩
            · rw [if_pos hf] at hlk
              have HLK := Lib.hid hlk
              clear hlk hr1 hfo
              have hf2 : ¬ ((fol m : Nat) : Int) = (j : Int) := by omega
              go_wp2_with (go_at_call 87; refine (HFO.out _).mono ?_; rintro e w' ⟨rfl, rfl⟩)
              go_ret3
              rw [HLK.out]
              exact ⟨rfl, rfl⟩
theorem lk_size (l : List UInt8) : (lk l).2.1 ≤ l.length ∧ (lk l).1 ≤ 9223372036854775807 ∧ (lk l).2.1 ≤ 9 ∧ ((lk l).2.2 = 0 ∨ ((lk l).1 = 0 ∧ (lk l).2.1 = 0 ∧ ((lk l).2.2 = 2 ∨ (lk l).2.2 = 5 ∨ (lk l).2.2 = 20))) := by
  rcases look_err (l := l) with h | ⟨h, h2⟩
  · have e : lk l = ((lk l).1, (lk l).2.1, 0) := by rw [← h]
    obtain ⟨_, h3, h4, h5⟩ := look_ok e
    have := fol_le (lk l).1
    exact ⟨h4, h5, by omega, Or.inl h⟩
  · generalize lk l = q at *
    obtain ⟨q1, q2, q3⟩ := q
    simp at h h2
    obtain ⟨rfl, rfl⟩ := h
    exact ⟨by simp, by simp, by simp, Or.inr ⟨rfl, rfl, h2⟩⟩
/-- what is read of a number within bounds -/
def withinR (l : List UInt8) (lo hi : Int) : Nat × Nat × Nat := if (lk l).2.2 = 0 ∧ (((lk l).1 : Int) < lo ∨ hi < ((lk l).1 : Int)) then (0, 0, 5) else lk l
def WithinPost (b : Nat) (l : List UInt8) (lo hi : Int) (w : World) (e : Ending) (w' : World) : Prop := e = .returned (.tuple #[.int .i64 ((withinR l lo hi).1 : Nat), .int .i64 ((withinR l lo hi).2.2 : Nat)]) ∧ Rdr w' b (l.drop (withinR l lo hi).2.1) ∧ Keep1 w w' b
theorem within_r (b : Nat) (l : List UInt8) (lo hi : Int) (w : World) (h : Rdr w b l) :
    Calls Tryd.prog 94 #[.pointer (some ⟨b, 0, none⟩), .int .i64 lo, .int .i64 hi] w (WithinPost b l lo hi w) := by
  have hA := ahead_any b l w h
  have hS := fun k hk => skip_any b k l w h hk
  obtain ⟨h1, h2, h3, h4⟩ := lk_size l
  unfold AheadPost at hA
  unfold WithinPost withinR
  generalize lk l = q at *
  obtain ⟨n, s, er⟩ := q
  simp only at *
  have hS1 := hS s h1
  have HA := Lib.hid hA
  have HS := Lib.hid hS1
  have H := Lib.hid h
  clear hA hS hS1 h
  rcases h4 with h4 | ⟨h5, h6, h4⟩
  · subst h4
    by_cases hlo : (n : Int) < lo
    · rw [if_pos ⟨rfl, Or.inl hlo⟩]
      go_enter Tryd.func94, Tryd.ntmps94
      go_wp2_with (first
        | (go_at_call 88; refine (HA.out).mono ?_; rintro e w' ⟨rfl, rfl⟩)
        | fail)
      go_ret2
      exact ⟨rfl, H.out, Keep1.refl _ _⟩
    · by_cases hhi : hi < (n : Int)
      · rw [if_pos ⟨rfl, Or.inr hhi⟩]
        go_enter Tryd.func94, Tryd.ntmps94
        go_wp2_with (first
          | (go_at_call 88; refine (HA.out).mono ?_; rintro e w' ⟨rfl, rfl⟩)
          | fail)
        go_ret2
        exact ⟨rfl, H.out, Keep1.refl _ _⟩
      · rw [if_neg (by omega)]
        go_enter Tryd.func94, Tryd.ntmps94
        go_wp2_with (first
          | (go_at_call 88; refine (HA.out).mono ?_; rintro e w' ⟨rfl, rfl⟩)
          | (go_at_call 89; refine (HS.out).mono ?_; rintro e w1 ⟨rfl, hr1, hk1⟩)
          | fail)
        go_ret2
        exact ⟨rfl, hr1, hk1⟩
  · have h7 : ¬ ((er : Nat) : Int) = 0 := by omega
    have h8 : ¬ er = 0 := by omega
    rw [if_neg (fun h => h8 h.1)]
    have H5 := Lib.hid h5
    have H6 := Lib.hid h6
    clear h4 h5 h6
    go_enter Tryd.func94, Tryd.ntmps94
    go_wp2_with (first
      | (go_at_call 88; refine (HA.out).mono ?_; rintro e w' ⟨rfl, rfl⟩)
      | fail)
    go_ret2
    rw [H5.out, H6.out]
    exact ⟨rfl, H.out, Keep1.refl _ _⟩
/-- the next byte -/
def byteR : List UInt8 → UInt8 × Nat × Nat
  | [] => (0, 0, 2)
  | x :: _ => (x, 1, 0)
def BytePost (b : Nat) (l : List UInt8) (w : World) (e : Ending) (w' : World) : Prop := e = .returned (.tuple #[.int .u8 ((byteR l).1.toNat : Int), .int .i64 ((byteR l).2.2 : Nat)]) ∧ Rdr w' b (l.drop (byteR l).2.1) ∧ Keep1 w w' b
theorem byte_r (b : Nat) (l : List UInt8) (w : World) (h : Rdr w b l) :
    Calls Tryd.prog 71 #[.pointer (some ⟨b, 0, none⟩)] w (BytePost b l w) := by
  have hS := fun k hk => skip_any b k l w h hk
  obtain ⟨A, n, c, h1, h2, h3, h4, h5⟩ := h.ex
  have h0 := h.c0
  have hl : l.length = n := by rw [← h2.len, bv_len]
  have H := Lib.hid h
  clear h h5
  unfold BytePost
  cases l with
  | nil =>
    simp at hl
    subst hl
    clear hS
    go_enter Tryd.func71, Tryd.ntmps71
    go_wp2
    go_ret2
    exact ⟨rfl, H.out, Keep1.refl _ _⟩
  | cons x r =>
    have hp : 0 < n := by simp at hl; omega
    have hpi : ¬ ((n : Int) = 0) := by omega
    obtain ⟨b1, o1, rfl, _, hc1⟩ := h2.addr hp
    have hc0 := hc1 0 hp
    rw [bv_at _ 0 (by simp)] at hc0
    simp only [List.getElem_cons_zero, Nat.add_zero] at hc0
    have HS := Lib.hid (hS 1 (by simp))
    clear hS hc1 h2 hl
    go_enter Tryd.func71, Tryd.ntmps71
    go_wp2_with (first
      | (go_at_call 89; refine (HS.out).mono ?_; rintro e w1 ⟨rfl, hr1, hk1⟩)
      | fail)
    go_ret2
    exact ⟨rfl, hr1, hk1⟩
/-- a reader over a copy -/
def ReadPost (l : List UInt8) (w : World) (e : Ending) (w' : World) : Prop := ∃ b, e = .returned (.pointer (some ⟨b, 0, none⟩)) ∧ w.heap.size ≤ b ∧ Rdr w' b l ∧ Below w.heap.size w w'
theorem read_r (A : Option Addr) (n c B : Nat) (l : List UInt8) (w : World) (h : Rd w B A n (bv l)) (hB : B ≤ w.heap.size) (hn : n ≤ 1099511627776) :
    Calls Tryd.prog 46 #[.slice A n c] w (ReadPost l w) := by
  have hlen := Lib.hid (show l.length = n by rw [← h.len, bv_len])
  go_enter Tryd.func46, Tryd.ntmps46
  go_wp2_with (go_at_call 66; refine (room_any A n c B 0 l _ h hB (by omega) (by omega) (by omega)).mono ?_; rintro e w1 ⟨A2, N2, k2, rfl, ho, hb⟩)
  go_ret
  have hN := ho.len
  rw [bv_len, hlen.out] at hN
  have hsz := hb.size
  have hb2 : Below w1.heap.size w1 (w1.alloc (.cells #[.bool true, .slice A2 N2 k2] 104)) := (Below.refl _ _).alloc (Nat.le_refl _) _
  refine ⟨w1.heap.size, rfl, hsz, ⟨by go_simp, ⟨A2, N2, k2, by go_simp, (ho.rd.below hb2 (Nat.le_refl _)).more (by simp), ho.cap.1, by omega, ?_⟩, fun o => ?_, by simp⟩, hb.trans (hb2.mono hsz)⟩
  · intro hp a ha
    have := ho.blk_lt a.block (by rw [ha]; rfl)
    omega
  · go_simp
end Go.Proofs.YtbcgnacfhpahkaaDoor.oct
