/- RoR, RcGa, RcGb, RcGc, RcGd, RcGm, RcRa, RcRb in one. -/
import Derived.Test.YtbcgnacfhpahkaaDoorLoR
import Derived.Test.YtbcgnacfhpahkaaDoorRcL
import Derived.Test.YtbcgnacfhpahkaaDoorRcSV
import Derived.Test.YtbcgnacfhpahkaaDoorLzO
namespace Go.Proofs.YtbcgnacfhpahkaaDoor.oct
open Go.RowKit Mem OM
set_option linter.unusedVariables false
theorem end_any (b : Nat) (l : List UInt8) (w : World) (h : Rdr w b l) :
    Calls Tryd.prog 49 #[.pointer (some ⟨b, 0, none⟩)] w fun e w' => e = .returned (.int .i64 (if l.length = 0 then 0 else 3)) ∧ w = w' := by
  obtain ⟨A, n, c, h1, h2, h3, h4, h5⟩ := h.ex
  have h0 := h.c0
  have hl : l.length = n := by rw [← h2.len, bv_len]
  rw [hl]
  clear h h2 h5
  by_cases hn : n = 0
  · subst hn
    rw [if_pos rfl]
    go_enter Tryd.func49, Tryd.ntmps49
    go_wp2
    go_ret
    exact ⟨rfl, rfl⟩
  · rw [if_neg hn]
    have hp : 0 < n := by omega
    go_enter Tryd.func49, Tryd.ntmps49
    go_wp2
    go_ret
    exact ⟨rfl, rfl⟩
/-- what is read of a number -/
def NumPost (b : Nat) (l : List UInt8) (w : World) (e : Ending) (w' : World) : Prop := e = .returned (.tuple #[.int .i64 ((lk l).1 : Nat), .int .i64 ((lk l).2.2 : Nat)]) ∧ Rdr w' b (l.drop (lk l).2.1) ∧ Keep1 w w' b
theorem number_r (b : Nat) (l : List UInt8) (w : World) (h : Rdr w b l) :
    Calls Tryd.prog 69 #[.pointer (some ⟨b, 0, none⟩)] w (NumPost b l w) := by
  have hA := ahead_any b l w h
  have hS := fun k hk => skip_any b k l w h hk
  obtain ⟨h1, h2, h3, h4⟩ := lk_size l
  unfold AheadPost at hA
  unfold NumPost
  generalize lk l = q at *
  obtain ⟨n, s, er⟩ := q
  simp only at *
  have hS1 := hS s h1
  have HA := Lib.hid hA
  have HS := Lib.hid hS1
  have H := Lib.hid h
  clear hA hS hS1 h
  rcases h4 with h4 | ⟨h5, h6, h4⟩
  · subst h4
    go_enter Tryd.func69, Tryd.ntmps69
    go_wp2_with (first
      | (go_at_call 88; refine (HA.out).mono ?_; rintro e w' ⟨rfl, rfl⟩)
      | (go_at_call 89; refine (HS.out).mono ?_; rintro e w1 ⟨rfl, hr1, hk1⟩)
      | fail)
    go_ret2
    exact ⟨rfl, hr1, hk1⟩
  · have h7 : ¬ ((er : Nat) : Int) = 0 := by omega
    have H5 := Lib.hid h5
    have H6 := Lib.hid h6
    clear h4 h5 h6
    go_enter Tryd.func69, Tryd.ntmps69
    go_wp2_with (first
      | (go_at_call 88; refine (HA.out).mono ?_; rintro e w' ⟨rfl, rfl⟩)
      | fail)
    go_ret2
    rw [H5.out, H6.out]
    exact ⟨rfl, H.out, Keep1.refl _ _⟩
/-- what is read of a text: it, how many bytes were read, why not -/
def textR (l : List UInt8) (most : Int) : List UInt8 × Nat × Nat := if (lk l).2.2 = 0 then (if max most 0 < ((lk l).1 : Int) then ([], 0, 4) else if l.length - (lk l).2.1 < (lk l).1 then ([], 0, 2) else ((l.drop (lk l).2.1).take (lk l).1, (lk l).2.1 + (lk l).1, 0)) else ([], 0, (lk l).2.2)
def TextPost (b : Nat) (l : List UInt8) (most : Int) (w : World) (e : Ending) (w' : World) : Prop := ∃ A N c, e = .returned (.tuple #[.slice A N c, .int .i64 ((textR l most).2.2 : Nat)]) ∧ Ow w' w.heap.size 5 A N c (bv (textR l most).1) ∧ Rdr w' b (l.drop (textR l most).2.1) ∧ Keep1 w w' b
theorem text_r (b : Nat) (l : List UInt8) (most : Int) (w : World) (h : Rdr w b l) :
    Calls Tryd.prog 72 #[.pointer (some ⟨b, 0, none⟩), .int .i64 most] w (TextPost b l most w) := by
  have hA := ahead_any b l w h
  have hS := fun k hk (w' : World) hb => skip_any b k l w' (h.below hb) hk
  obtain ⟨A, m, c, c1, c2, c3, c4, c5⟩ := h.ex
  have hl : l.length = m := by rw [← c2.len, bv_len]
  obtain ⟨h1, h2, h3, h4⟩ := lk_size l
  unfold AheadPost at hA
  unfold TextPost textR
  generalize lk l = q at *
  obtain ⟨n, s, er⟩ := q
  simp only at *
  have HA := Lib.hid hA
  have HS0 := Lib.hid hS
  have H := Lib.hid h
  have HL := Lib.hid hl
  clear hA hS h c5
  rcases h4 with h4 | ⟨h5, h6, h4⟩
  · subst h4
    rw [if_pos rfl]
    obtain ⟨mx, hmx⟩ : ∃ mx, max most 0 = mx := ⟨_, rfl⟩
    by_cases hlo : mx < (n : Int)
    · rw [hmx, if_pos hlo]
      clear hl
      have HMX := Lib.hid hmx
      go_enter Tryd.func72, Tryd.ntmps72
      go_wp2_with (first
        | (go_at_call 88; refine (HA.out).mono ?_; rintro e w' ⟨rfl, rfl⟩)
        | fail)
      go_ret2
      exact ⟨_, _, _, rfl, Ow.nil _ _ _, H.out, Keep1.refl _ _⟩
    · rw [hmx, if_neg hlo]
      by_cases hsh : l.length - s < n
      · rw [if_pos hsh]
        have hsh2 : (m : Int) - (s : Int) < (n : Int) := by omega
        clear hl
        have HMX := Lib.hid hmx
        go_enter Tryd.func72, Tryd.ntmps72
        go_wp2_with (first
          | (go_at_call 88; refine (HA.out).mono ?_; rintro e w' ⟨rfl, rfl⟩)
          | fail)
        go_ret2
        exact ⟨_, _, _, rfl, Ow.nil _ _ _, H.out, Keep1.refl _ _⟩
      · rw [if_neg hsh]
        have hsh2 : ¬ (m : Int) - (s : Int) < (n : Int) := by omega
        have hsn : s + n ≤ m := by omega
        have hS1 : ∀ w' : World, Below w.heap.size w w' → Calls Tryd.prog 89 #[.pointer (some ⟨b, 0, none⟩), .int .i64 ((s : Int) + (n : Int))] w' fun e w1 => e = .returned (.tuple #[]) ∧ Rdr w1 b (l.drop (s + n)) ∧ Keep1 w' w1 b := fun w' hb => by
          have := HS0.out (s + n) (by omega) w' hb
          rw [Int.natCast_add] at this
          exact this
        have HS := Lib.hid hS1
        clear hl hS1
        have HMX := Lib.hid hmx
        go_enter Tryd.func72, Tryd.ntmps72
        go_wp2_with (first
          | (go_at_call 88; refine (HA.out).mono ?_; rintro e w' ⟨rfl, rfl⟩)
          | (refine wp_cut_lh u8ty rfl (.tmp 35) (.tmp 36) (.tmp 39) rfl rfl rfl rfl c2 (by omega) (by omega) (by omega) c3 ?_; intro A' n' c' hn' hc' h2'; have hn2 : n' = n := (by omega); clear hn'; subst hn2; rw [Int.toNat_natCast, ← bv_drop, ← bv_take] at h2')
          | (go_at_call 66; refine (room_any _ _ _ _ 0 _ _ h2' (Nat.le_refl _) (by omega) (by omega) (by omega)).mono ?_; rintro e w1 ⟨A2, N2, k2, rfl, ho, hb⟩)
          | (go_at_call 89; refine (HS.out _ hb).mono ?_; rintro e w2 ⟨rfl, hr1, hk1⟩)
          | fail)
        go_ret2
        exact ⟨_, _, _, rfl, hk1.ow ho H.out.lt, hr1, (Keep1.of hb).trans hk1⟩
  · have h7 : ¬ ((er : Nat) : Int) = 0 := by omega
    have h8 : ¬ er = 0 := by omega
    rw [if_neg h8]
    clear h4 h5 h6 hl
    go_enter Tryd.func72, Tryd.ntmps72
    go_wp2_with (first
      | (go_at_call 88; refine (HA.out).mono ?_; rintro e w' ⟨rfl, rfl⟩)
      | fail)
    go_ret2
    exact ⟨_, _, _, rfl, Ow.nil _ _ _, H.out, Keep1.refl _ _⟩
end Go.Proofs.YtbcgnacfhpahkaaDoor.oct
namespace Go.Proofs.YtbcgnacfhpahkaaDoor.rc
set_option maxRecDepth 20000
open Go.RowKit Mem OM LM DM
set_option linter.unusedVariables false
set_option linter.unusedSimpArgs false
attribute [local go_sem] Oper.semAt_some
/-- what the world keeps, but for two blocks -/
structure Keep2 (w w' : World) (b q : Nat) : Prop where
  os : w'.os = w.os
  tape : w'.tape = w.tape
  output : w'.output = w.output
  size : w.heap.size ≤ w'.heap.size
  block : ∀ i, i < w.heap.size → i ≠ b → i ≠ q → w'.heap[i]? = w.heap[i]?
theorem Keep2.refl (w : World) (b q : Nat) : Keep2 w w b q := ⟨rfl, rfl, rfl, Nat.le_refl _, fun _ _ _ _ => rfl⟩
theorem Keep2.trans {w w1 w2 : World} {b q : Nat} (h : Keep2 w w1 b q) (k : Keep2 w1 w2 b q) : Keep2 w w2 b q :=
  ⟨k.os.trans h.os, k.tape.trans h.tape, k.output.trans h.output, Nat.le_trans h.size k.size, fun i hi h1 h2 => (k.block i (Nat.lt_of_lt_of_le hi h.size) h1 h2).trans (h.block i hi h1 h2)⟩
theorem Keep2.of1 {w w' : World} {b : Nat} (q : Nat) (h : oct.Keep1 w w' b) : Keep2 w w' b q := ⟨h.os, h.tape, h.output, h.size, fun i hi h1 _ => h.block i hi h1⟩
theorem Keep2.of2 {w w' : World} (b : Nat) {q : Nat} (h : oct.Keep1 w w' q) : Keep2 w w' b q := ⟨h.os, h.tape, h.output, h.size, fun i hi _ h2 => h.block i hi h2⟩
theorem Keep2.ofB {w w' : World} (b q : Nat) (h : Below w.heap.size w w') : Keep2 w w' b q := ⟨h.os, h.tape, h.output, h.size, fun i hi _ _ => h.block i hi⟩
theorem Keep2.below {B b q : Nat} {w0 w w' : World} (h : Below B w0 w) (k : Keep2 w w' b q) (hB : B ≤ w.heap.size) (hb : B ≤ b) (hq : B ≤ q) : Below B w0 w' :=
  h.trans ⟨k.os, k.tape, k.output, k.size, fun i hi => k.block i (Nat.lt_of_lt_of_le hi hB) (by omega) (by omega)⟩
theorem Keep2.cell {w w' : World} {b q : Nat} (h : Keep2 w w' b q) {a : Addr} (hl : a.block < w.heap.size) (hb : a.block ≠ b) (hq : a.block ≠ q) : w'.cell? a = w.cell? a := World.cell?_of_block (w := w) (h.block a.block hl hb hq)
/-- a reader and what it is over: what is left, and whether something could not be read -/
structure Rd2 (w : World) (b q : Nat) (l : List UInt8) (f : Bool) : Prop where
  rdr : oct.Rdr w b l
  c0 : w.cell? ⟨q, 0, none⟩ = some (.pointer (some ⟨b, 0, none⟩))
  c1 : w.cell? ⟨q, 1, none⟩ = some (.bool f)
  fz : w.frozen? ⟨q, 1, none⟩ = false
  lt : b < q
  ql : q < w.heap.size
theorem Rd2.below {w w' : World} {b q : Nat} {l : List UInt8} {f : Bool} (h : Rd2 w b q l f) (hb : Below w.heap.size w w') : Rd2 w' b q l f :=
  ⟨h.rdr.below hb, (hb.cell (p := ⟨q, 0, none⟩) h.ql).trans h.c0, (hb.cell (p := ⟨q, 1, none⟩) h.ql).trans h.c1, (World.frozen?_of_block (w := w) (hb.block q h.ql)).trans h.fz, h.lt, Nat.lt_of_lt_of_le h.ql hb.size⟩
theorem Rd2.step {w w' : World} {b q : Nat} {l l' : List UInt8} {f : Bool} (h : Rd2 w b q l f) (hr : oct.Rdr w' b l') (k : oct.Keep1 w w' b) : Rd2 w' b q l' f :=
  ⟨hr, (k.cell (a := ⟨q, 0, none⟩) h.ql (Nat.ne_of_gt h.lt)).trans h.c0, (k.cell (a := ⟨q, 1, none⟩) h.ql (Nat.ne_of_gt h.lt)).trans h.c1, (World.frozen?_of_block (w := w) (k.block q h.ql (Nat.ne_of_gt h.lt))).trans h.fz, h.lt, Nat.lt_of_lt_of_le h.ql k.size⟩
theorem Rdr.keep {w w' : World} {b q : Nat} {l : List UInt8} (h : oct.Rdr w b l) (k : oct.Keep1 w w' q) (hq : b < q) : oct.Rdr w' b l := by
  obtain ⟨A, n, c, h1, h2, h3, h4, h5⟩ := h.ex
  refine ⟨(k.cell (a := ⟨b, 0, none⟩) h.lt (Nat.ne_of_lt hq)).trans h.c0, ⟨A, n, c, (k.cell (a := ⟨b, 1, none⟩) h.lt (Nat.ne_of_lt hq)).trans h1, ?_, h3, h4, h5⟩, fun o => (World.frozen?_of_block (w := w) (k.block b h.lt (Nat.ne_of_lt hq))).trans (h.fz o), Nat.lt_of_lt_of_le h.lt k.size⟩
  exact (k.rd h2 (Nat.le_refl _) (fun hp a ha => Nat.ne_of_lt (Nat.lt_trans (h5 hp a ha) hq))).more k.size
def heedB (f : Bool) (e : Int) : Bool := f || decide (e ≠ 0)
def HeedPost (b q : Nat) (l : List UInt8) (f : Bool) (w : World) (e : Ending) (w' : World) : Prop := e = .returned (.tuple #[]) ∧ Rd2 w' b q l f ∧ oct.Keep1 w w' q
theorem heed_any (b q : Nat) (l : List UInt8) (f : Bool) (er : Int) (w : World) (h : Rd2 w b q l f) :
    Calls Tryd.prog 70 #[.pointer (some ⟨q, 0, none⟩), .int .i64 er] w (HeedPost b q l (heedB f er) w) := by
  have c0 := h.c0
  have c1 := h.c1
  have fz := h.fz
  unfold HeedPost
  by_cases he : er = 0
  · subst he
    go_enter Tryd.func70, Tryd.ntmps70
    go_wp2_with fail
    go_end0
    exact ⟨rfl, by simpa [heedB] using h, oct.Keep1.refl _ _⟩
  · have hb : (er == 0) = false := beq_eq_false_iff_ne.2 he
    have H := Lib.hid h
    clear h
    go_enter Tryd.func70, Tryd.ntmps70
    go_wp2_with fail
    go_end0
    have k := oct.Keep1.set w q 1 (.bool true)
    have hne : heedB f er = true := by simp [heedB, he]
    rw [hne]
    refine ⟨rfl, ⟨Rdr.keep H.out.rdr k H.out.lt, ?_, ?_, ?_, H.out.lt, Nat.lt_of_lt_of_le H.out.ql k.size⟩, k⟩
    · go_simp
    · go_simp
    · rw [World.frozen?_setCell]; exact H.out.fz
def Num2Post (b q : Nat) (l : List UInt8) (f : Bool) (w : World) (e : Ending) (w' : World) : Prop := e = .returned (.int .i64 ((lk l).1 : Nat)) ∧ Rd2 w' b q (l.drop (lk l).2.1) (heedB f ((lk l).2.2 : Nat)) ∧ Keep2 w w' b q
theorem num2_any (b q : Nat) (l : List UInt8) (f : Bool) (w : World) (h : Rd2 w b q l f) :
    Calls Tryd.prog 47 #[.pointer (some ⟨q, 0, none⟩)] w (Num2Post b q l f w) := by
  have c0 := h.c0
  have hn := oct.number_r b l w h.rdr
  unfold Num2Post
  unfold oct.NumPost at hn
  obtain ⟨v1, hv1⟩ : ∃ z, (((lk l).1 : Nat) : Int) = z := ⟨_, rfl⟩
  obtain ⟨v2, hv2⟩ : ∃ z, (((lk l).2.2 : Nat) : Int) = z := ⟨_, rfl⟩
  obtain ⟨l2, hl2⟩ : ∃ z, l.drop (lk l).2.1 = z := ⟨_, rfl⟩
  simp only [hv1, hv2, hl2] at hn ⊢
  have HN := Lib.hid hn
  have H := Lib.hid h
  clear hn h hv1 hv2 hl2
  go_enter Tryd.func47, Tryd.ntmps47
  go_wp2_with (first
    | (go_at_call 69; refine (HN.out).mono ?_; rintro e w2 ⟨rfl, hr2, hk2⟩; have h2 := Lib.hid (H.out.step hr2 hk2))
    | (go_at_call 70; refine (heed_any b q l2 f v2 w2 h2.out).mono ?_; rintro e w3 ⟨rfl, hr3, hk3⟩)
    | fail)
  go_ret
  exact ⟨rfl, hr3, (Keep2.of1 q hk2).trans (Keep2.of2 b hk3)⟩
end Go.Proofs.YtbcgnacfhpahkaaDoor.rc
namespace Go.Proofs.YtbcgnacfhpahkaaDoor.rc
set_option maxRecDepth 20000
open Go.RowKit Mem OM LM DM
set_option linter.unusedVariables false
set_option linter.unusedSimpArgs false
attribute [local go_sem] Oper.semAt_some
/-- so many bytes, read one by one -/
def bytesS : Nat → List UInt8 → Bool → List UInt8 × List UInt8 × Bool
  | 0, l, f => ([], l, f)
  | n + 1, l, f => ((bytesS n l f).1 ++ [(oct.byteR (bytesS n l f).2.1).1], (bytesS n l f).2.1.drop (oct.byteR (bytesS n l f).2.1).2.1, heedB (bytesS n l f).2.2 ((oct.byteR (bytesS n l f).2.1).2.2 : Nat))
theorem bytesS_len (n : Nat) (l : List UInt8) (f : Bool) : (bytesS n l f).1.length = n := by
  induction n with
  | zero => rfl
  | succ n ih => simp [bytesS, ih]
/-- a number: its value, what is left, and whether something failed -/
def numS (l : List UInt8) (f : Bool) : Int × List UInt8 × Bool := (((lk l).1 : Nat), l.drop (lk l).2.1, heedB f ((lk l).2.2 : Nat))
structure RecS where
  K : Int
  S : Int
  d : List UInt8
  x : List UInt8
  l : List UInt8
  f : Bool
def recS (l : List UInt8) (f : Bool) : RecS :=
  let k := numS l f
  let s := numS k.2.1 k.2.2
  let d := bytesS 32 s.2.1 s.2.2
  let t := oct.textR d.2.1 256
  ⟨k.1, s.1, d.1, t.1, d.2.1.drop t.2.1, heedB d.2.2 (t.2.2 : Nat)⟩
theorem range_keep2 {w w' : World} {b q b2 o : Nat} {cs : List Value} (h : w.rangeAt b2 o cs) (hk : Keep2 w w' b q) (hlt : b2 < w.heap.size) (h1 : b2 ≠ b) (h2 : b2 ≠ q) : w'.rangeAt b2 o cs := fun j v hj => (hk.cell (a := ⟨b2, o + j, none⟩) hlt h1 h2).trans (h j v hj)
theorem there_keep2 {w w' : World} {b q b2 o n : Nat} (h : w.there b2 o n) (hk : Keep2 w w' b q) (hlt : b2 < w.heap.size) (h1 : b2 ≠ b) (h2 : b2 ≠ q) : w'.there b2 o n := fun j hj =>
  ⟨by rw [hk.cell (a := ⟨b2, o + j, none⟩) hlt h1 h2]; exact (h j hj).1, by rw [World.frozen?_of_block (w := w) (hk.block b2 hlt h1 h2)]; exact (h j hj).2⟩
theorem Keep2.store {w w' : World} {b q : Nat} (h : Keep2 w w' b q) {k : Nat} {w2 : World} (k1 : oct.Keep1 w' w2 k) (hk : w.heap.size ≤ k) : Keep2 w w2 b q :=
  ⟨k1.os.trans h.os, k1.tape.trans h.tape, k1.output.trans h.output, Nat.le_trans h.size k1.size, fun i hi h1 h2 => (k1.block i (Nat.lt_of_lt_of_le hi h.size) (by omega)).trans (h.block i hi h1 h2)⟩
theorem Rd2.other {w w' : World} {b q k : Nat} {l : List UInt8} {f : Bool} (h : Rd2 w b q l f) (k1 : oct.Keep1 w w' k) (hk : q < k) : Rd2 w' b q l f :=
  ⟨Rdr.keep h.rdr k1 (Nat.lt_trans h.lt hk), (k1.cell (a := ⟨q, 0, none⟩) h.ql (Nat.ne_of_lt hk)).trans h.c0, (k1.cell (a := ⟨q, 1, none⟩) h.ql (Nat.ne_of_lt hk)).trans h.c1, (World.frozen?_of_block (w := w) (k1.block q h.ql (Nat.ne_of_lt hk))).trans h.fz, h.lt, Nat.lt_of_lt_of_le h.ql k1.size⟩
/-- the state of 'record': two records of its own, the second has L -/
structure RS (w wr : World) (b q r g : Nat) (l : List UInt8) (f : Bool) (L : List Value) : Prop where
  rd : Rd2 wr b q l f
  rng : wr.rangeAt g 0 L
  th : wr.there g 0 35
  tr : wr.there r 0 35
  kp : Keep2 w wr b q
  hr : w.heap.size ≤ r
  hrg : r < g
  hg : g < wr.heap.size
  hq : q < w.heap.size
theorem RS.call {w wr w' : World} {b q r g : Nat} {l l' : List UInt8} {f f' : Bool} {L : List Value} (h : RS w wr b q r g l f L) (hr : Rd2 w' b q l' f') (k : Keep2 wr w' b q) : RS w w' b q r g l' f' L := by
  have := h.rd.lt
  have := h.hq
  have := h.hr
  have := h.hrg
  have := h.hg
  exact ⟨hr, range_keep2 h.rng k h.hg (by omega) (by omega), there_keep2 h.th k h.hg (by omega) (by omega), there_keep2 h.tr k (by omega) (by omega) (by omega), h.kp.trans k, h.hr, h.hrg, Nat.lt_of_lt_of_le h.hg k.size, h.hq⟩
theorem RS.set {w wr : World} {b q r g : Nat} {l : List UInt8} {f : Bool} {L : List Value} (h : RS w wr b q r g l f L) (i : Nat) (v : Value) : RS w (wr.setCell ⟨g, i, none⟩ v) b q r g l f (L.set i v) := by
  have := h.hq
  have := h.hr
  have := h.hrg
  have k1 := oct.Keep1.set wr g i v
  exact ⟨h.rd.other k1 (by omega), range_set1 h.rng i v, there_set1 h.th g i v, there_set1 h.tr g i v, h.kp.store k1 (by omega), h.hr, h.hrg, Nat.lt_of_lt_of_le h.hg k1.size, h.hq⟩
theorem RS.new {w : World} {b q : Nat} {l : List UInt8} {f : Bool} (h : Rd2 w b q l f) (t : TypeId) : RS w ((w.alloc (.cells recZ.toArray t)).alloc (.cells recZ.toArray t)) b q w.heap.size (w.heap.size + 1) l f recZ := by
  have hs : (w.alloc (.cells recZ.toArray t)).heap.size = w.heap.size + 1 := by simp
  have h1 : Below w.heap.size w (w.alloc (.cells recZ.toArray t)) := (Below.refl _ _).alloc (Nat.le_refl _) _
  have h2 : Below (w.alloc (.cells recZ.toArray t)).heap.size (w.alloc (.cells recZ.toArray t)) ((w.alloc (.cells recZ.toArray t)).alloc (.cells recZ.toArray t)) := (Below.refl _ _).alloc (Nat.le_refl _) _
  have h3 := h1.trans (h2.mono h1.size)
  have t1 := dg.there_new w recZ t
  have t2 := dg.there_new (w.alloc (.cells recZ.toArray t)) recZ t
  have r2 := dg.range_new (w.alloc (.cells recZ.toArray t)) recZ t
  rw [recZ_len] at t1 t2
  rw [hs] at t2 r2
  exact ⟨h.below h3, r2, t2, dg.there_below t1 h2 (by rw [hs]; omega) (by rw [hs]; omega), Keep2.ofB b q h3, Nat.le_refl _, Nat.lt_succ_self _, by simp, h.ql⟩
/-- the digest as far as it is read -/
def dgT (d : List UInt8) : List UInt8 := d ++ List.replicate (32 - d.length) 0
theorem recL_setD (K S : Int) (d : List UInt8) (z : UInt8) (A : Option Addr) (n c : Nat) (hd : d.length < 32) : (recL K S (dgT d) A n c).set (2 + d.length) (.int .u8 (z.toNat : Int)) = recL K S (dgT (d ++ [z])) A n c := by
  unfold recL dgT
  rw [show 2 + d.length = d.length + 1 + 1 by omega, List.set_cons_succ, List.set_cons_succ]
  congr 2
  obtain ⟨m, hm⟩ : ∃ m, 32 - d.length = m + 1 := ⟨31 - d.length, by omega⟩
  have hm2 : 32 - (d ++ [z]).length = m := by simp; omega
  rw [hm, hm2, List.replicate_succ, bv_app, bv_app, bv_app]
  simp only [List.append_assoc]
  have e : bv d ++ (bv (0 :: List.replicate m 0) ++ [Value.slice A n c]) = bv d ++ ((Value.int .u8 0) :: (bv (List.replicate m 0) ++ [Value.slice A n c])) := by simp [bv]
  rw [e, List.set_append_right _ _ (by rw [bv_len]; omega), bv_len, Nat.sub_self, List.set_cons_zero]
  simp [bv]
def RecPost (b q : Nat) (s : RecS) (w : World) (e : Ending) (w' : World) : Prop := ∃ A n c, e = .returned (.agg (recL s.K s.S s.d A n c).toArray) ∧ Ow w' w.heap.size 5 A n c (bv s.x) ∧ Rd2 w' b q s.l s.f ∧ Keep2 w w' b q
theorem RS.at {w wr : World} {b q r g : Nat} {l : List UInt8} {f : Bool} {L : List Value} (h : RS w wr b q r g l f L) (i : Nat) (hi : i < 35) : ∃ v, wr.cell? ⟨g, i, none⟩ = some v ∧ wr.frozen? ⟨g, i, none⟩ = false := by
  have := h.th i hi
  rw [Nat.zero_add] at this
  exact ⟨_, Option.eq_some_of_isSome this.1, this.2⟩
theorem keep_o {w w' : World} {b : Nat} (h : dg.Keep1 w w' b) : oct.Keep1 w w' b := ⟨h.os, h.tape, h.output, h.size, h.block⟩
theorem num_s (b q : Nat) (l : List UInt8) (f : Bool) (w : World) (h : Rd2 w b q l f) {k : Int} {l1 : List UInt8} {f1 : Bool} (hs : numS l f = (k, l1, f1)) :
    Calls Tryd.prog 47 #[.pointer (some ⟨q, 0, none⟩)] w fun e w' => e = .returned (.int .i64 k) ∧ Rd2 w' b q l1 f1 ∧ Keep2 w w' b q := by
  have := num2_any b q l f w h
  unfold Num2Post at this
  unfold numS at hs
  simp only [Prod.mk.injEq] at hs
  obtain ⟨e1, e2, e3⟩ := hs
  rwa [e1, e2, e3] at this
set_option maxHeartbeats 4000000 in
theorem record_any (b q : Nat) (l : List UInt8) (f : Bool) (w : World) (h : Rd2 w b q l f) :
    Calls Tryd.prog 48 #[.pointer (some ⟨q, 0, none⟩)] w (RecPost b q (recS l f) w) := by
  obtain ⟨⟨K, l1, f1⟩, h1⟩ : ∃ z, numS l f = z := ⟨_, rfl⟩
  obtain ⟨⟨S, l2, f2⟩, h2⟩ : ∃ z, numS l1 f1 = z := ⟨_, rfl⟩
  obtain ⟨⟨D, l3, f3⟩, h3⟩ : ∃ z, bytesS 32 l2 f2 = z := ⟨_, rfl⟩
  obtain ⟨⟨X, u, er⟩, h4⟩ : ∃ z, oct.textR l3 256 = z := ⟨_, rfl⟩
  have hs : recS l f = ⟨K, S, D, X, l3.drop u, heedB f3 (er : Nat)⟩ := by unfold recS; simp only [h1, h2, h3, h4]
  rw [hs]
  unfold RecPost
  simp only
  have hN := RS.new h 26
  obtain ⟨W, hW⟩ : ∃ z, (w.alloc (.cells recZ.toArray 26)).alloc (.cells recZ.toArray 26) = z := ⟨_, rfl⟩
  rw [hW] at hN
  obtain ⟨r, hr⟩ : ∃ z, w.heap.size = z := ⟨_, rfl⟩
  rw [hr] at hN ⊢
  have n1 := fun (y : World) (hy : Rd2 y b q l f) => num_s b q l f y hy h1
  have n2 := fun (y : World) (hy : Rd2 y b q l1 f1) => num_s b q l1 f1 y hy h2
  have htx := fun (y : World) (hy : oct.Rdr y b l3) => oct.text_r b l3 256 y hy
  unfold oct.TextPost at htx
  simp only [h4] at htx
  have HH := Lib.hid (And.intro h1 (And.intro h2 (And.intro h3 h4)))
  have HN1 := Lib.hid n1
  have HN2 := Lib.hid n2
  have HTX := Lib.hid htx
  have H0 := Lib.hid hN
  clear h1 h2 h3 h4 n1 n2 htx hs hN h
  go_enter Tryd.func48, Tryd.ntmps48
  go_upto_region 2 with fail
  show Code.wp _ _ _ _ ((w.alloc (.cells recZ.toArray 26)).alloc (.cells recZ.toArray 26))
  rw [hW]
  try rw [hr]
  obtain ⟨v0, z0, y0⟩ := H0.out.at 0 (by omega)
  go_upto_region 3 with (go_at_call 47; refine (HN1.out W H0.out.rd).mono ?_; rintro e w3 ⟨rfl, hr3, hk3⟩; have H3 := Lib.hid (H0.out.call hr3 hk3); clear hr3 hk3; obtain ⟨v3, z3, y3⟩ := H3.out.at 0 (by omega))
  have H4 := Lib.hid (H3.out.set 0 (.int .i64 K))
  obtain ⟨w4, hw4⟩ : ∃ z, w3.setCell ⟨r + 1, 0, none⟩ (.int .i64 K) = z := ⟨_, rfl⟩
  rw [hw4] at H4 ⊢
  clear H3 z3 y3 hw4 H0 HN1 z0 y0 hW
  go_upto_region 4 with (go_at_call 47; refine (HN2.out w4 H4.out.rd).mono ?_; rintro e w5 ⟨rfl, hr5, hk5⟩; have H5 := Lib.hid (H4.out.call hr5 hk5); clear hr5 hk5; obtain ⟨v5, z5, y5⟩ := H5.out.at 1 (by omega))
  have H6 := Lib.hid (H5.out.set 1 (.int .i64 S))
  rw [show (recZ.set 0 (.int .i64 K)).set 1 (.int .i64 S) = recL K S (dgT []) none 0 0 from rfl] at H6
  obtain ⟨w6, hw6⟩ : ∃ z, w5.setCell ⟨r + 1, 1, none⟩ (.int .i64 S) = z := ⟨_, rfl⟩
  rw [hw6] at H6 ⊢
  clear H4 H5 z5 y5 hw6 HN2
  go_wp2_with fail
  go_loopw [15] (fun i wr => ∃ j : Nat, i = .int .i64 j ∧ j ≤ 32 ∧ Hid (RS w wr b q r (r + 1) (bytesS j l2 f2).2.1 (bytesS j l2 f2).2.2 (recL K S (dgT (bytesS j l2 f2).1) none 0 0))) (fun i _ => 32 - (intOf i).toNat)
  case atStart => exact ⟨0, rfl, Nat.zero_le _, H6⟩
  case round =>
    obtain ⟨j, rfl, hj, HR⟩ := hrel
    by_cases hjl : j < 32
    · have hji : (j : Int) < 32 := by omega
      have hdl := bytesS_len j l2 f2
      have hnext : ∀ z t, bytesS j l2 f2 = z → oct.byteR z.2.1 = t → bytesS (j + 1) l2 f2 = (z.1 ++ [t.1], z.2.1.drop t.2.1, heedB z.2.2 (t.2.2 : Nat)) := fun z t e1 e2 => by subst e1; subst e2; rfl
      obtain ⟨⟨d, lj, fj⟩, hz⟩ : ∃ z, bytesS j l2 f2 = z := ⟨_, rfl⟩
      have hb := oct.byte_r b lj wr (by have := HR.out.rd.rdr; rwa [hz] at this)
      unfold oct.BytePost at hb
      obtain ⟨⟨y, n, er2⟩, ht⟩ : ∃ t, oct.byteR lj = t := ⟨_, rfl⟩
      have hnx := hnext _ _ hz ht
      rw [hz] at HR hdl
      simp only [ht] at hb hnx
      simp only at HR hdl
      have HB := Lib.hid hb
      have HX := Lib.hid hnx
      have c0 := HR.out.rd.c0
      clear hb hnx hnext hz ht
      go_wp2_with (first
        | (go_at_call 71; refine (HB.out).mono ?_; rintro e w7 ⟨rfl, hr7, hk7⟩; have H7 := Lib.hid (HR.out.call (HR.out.rd.step hr7 hk7) (Keep2.of1 q hk7)); clear hr7 hk7)
        | (go_at_call 70; refine (heed_any b q _ fj (er2 : Nat) w7 H7.out.rd).mono ?_; rintro e w8 ⟨rfl, hr8, hk8⟩; have H8 := Lib.hid (H7.out.call hr8 (Keep2.of2 b hk8)); clear hr8 hk8; obtain ⟨v8, z8, y8⟩ := H8.out.at (2 + j) (by omega))
        | fail)
      have H9 := Lib.hid (H8.out.set (2 + j) (.int .u8 (y.toNat : Int)))
      have e9 := recL_setD K S d y none 0 0 (by omega)
      rw [hdl] at e9
      rw [e9] at H9
      go_roundw
      case rel => exact ⟨j + 1, by go_num, by omega, by rw [HX.out]; exact H9⟩
      case measure => simp [intOf]; omega
    · obtain rfl : j = 32 := by omega
      have hE := HH.out.2.2.1
      rw [hE] at HR
      simp only at HR
      have hdl := bytesS_len 32 l2 f2
      rw [hE] at hdl
      simp only at hdl
      have hdt : dgT D = D := by unfold dgT; rw [hdl]; simp
      rw [hdt] at HR
      have ho0 := HTX.out wr HR.out.rd.rdr
      have HT := Lib.hid ho0
      have c0 := HR.out.rd.c0
      have hgq : q < wr.heap.size := HR.out.rd.ql
      have hrw : r ≤ wr.heap.size := by have := HR.out.hg; omega
      clear ho0 HTX hE
      go_upto_region 13 with (first
        | (go_at_call 72; refine (HT.out).mono ?_; rintro e w7 ⟨A7, N7, c7, rfl, ho7, hr7, hk7⟩; have H7 := Lib.hid (HR.out.call (HR.out.rd.step hr7 hk7) (Keep2.of1 q hk7)))
        | (go_at_call 70; refine (heed_any b q _ f3 (er : Nat) w7 H7.out.rd).mono ?_; rintro e w8 ⟨rfl, hr8, hk8⟩; have H8 := Lib.hid (H7.out.call hr8 (Keep2.of2 b hk8)))
        | fail)
      have ho8 : Ow w8 wr.heap.size 5 A7 N7 c7 (bv X) := hk8.ow ho7 hgq
      have HO8 := Lib.hid ho8
      have hcap := ho8.cap.1
      have hrr : w.heap.size ≤ r := by rw [hr]; exact Nat.le_refl _
      clear ho7 hr7 hk7 hr8 hk8 ho8 H7
      rw [hr] at *
      by_cases hn0 : N7 = 0
      · subst hn0
        have hX : X = [] := by have := HO8.out.len; rw [bv_len] at this; exact List.eq_nil_of_length_eq_zero this
        have hlen := recL_len (K := K) (S := S) (A := none) (n := 0) (c := 0) hdl
        have hone : ∀ v ∈ recL K S D none 0 0, v.oneCell' = true := rec_one
        have hrng := H8.out.rng
        obtain ⟨RL, hRL⟩ : ∃ z, recL K S D none 0 0 = z := ⟨_, rfl⟩
        rw [hRL] at hlen hone hrng
        have hinf : (Tryd.prog.info? 26).map (·.size) = some RL.length := by rw [hlen]; exact info_rec
        obtain ⟨RA, hRA⟩ : ∃ z, RL.toArray = z := ⟨_, rfl⟩
        have hRAL : RA.toList = RL := by rw [← hRA]
        have hsz : RA.size = 35 := by rw [← hRA]; exact hlen
        have hone2 : RA.all (·.oneCell') = true := by rw [← hRA]; exact all_oneCell_toArray hone
        have hth : w8.there r 0 RA.size := by rw [hsz]; exact H8.out.tr
        have hinfA : (Tryd.prog.info? 26).map (·.size) = some RA.size := by rw [hsz]; exact info_rec
        have hr9 := World.rangeAt_setCells_same w8 r 0 RL (by rw [hlen]; exact H8.out.tr)
        have HRA := Lib.hid hRA
        have HRE := Lib.hid hRL
        clear hRA hRL hlen
        go_wp2_with (first
          | (refine wpList_load_mid rfl 26 (.tmp 3) rfl (r + 1) 0 rfl RL _ hrng Tryd.underlying26 rfl hinf ?_; rw [HRA.out])
          | (refine wpList_store_mid rfl 26 (.tmp 2) (.tmp 50) rfl r 0 RA rfl rfl hth hinfA hone2 ?_; rw [hRAL])
          | fail)
        try simp only [Exit.inBlock, Exit.then]
        refine bodyPost_ret (dg.results_row rfl _ r 0 RL _ rfl hr9 Tryd.underlying26 rfl hinf) rfl ?_
        have k9 := keep_o (dg.Keep1.sets r RL 0 w8)
        have hqr : q < r := Nat.lt_of_lt_of_le H8.out.hq H8.out.hr
        exact ⟨none, 0, 0, by rw [HRE.out, HRA.out], by first | exact Ow.nil _ _ _ | (rw [hX]; exact Ow.nil _ _ _), H8.out.rd.other k9 hqr, H8.out.kp.store k9 H8.out.hr⟩
      · have hpos : (0 : Int) < (N7 : Int) := by omega
        obtain ⟨v9, z9, y9⟩ := H8.out.at 34 (by omega)
        have H9 := Lib.hid (H8.out.set 34 (.slice A7 N7 c7))
        have e34 : (recL K S D none 0 0).set 34 (.slice A7 N7 c7) = recL K S D A7 N7 c7 := rec_set34 hdl
        rw [e34] at H9
        have ho9 : Ow (w8.setCell ⟨r + 1, 34, none⟩ (.slice A7 N7 c7)) wr.heap.size 5 A7 N7 c7 (bv X) := (oct.Keep1.set w8 (r + 1) 34 (.slice A7 N7 c7)).ow HO8.out HR.out.hg
        have HO9 := Lib.hid ho9
        clear ho9 e34
        go_upto_region 15 with fail
        obtain ⟨w9, hw9⟩ : ∃ z, w8.setCell ⟨r + 1, 34, none⟩ (.slice A7 N7 c7) = z := ⟨_, rfl⟩
        rw [hw9] at H9 HO9 ⊢
        have hlen := recL_len (K := K) (S := S) (A := A7) (n := N7) (c := c7) hdl
        have hone : ∀ v ∈ recL K S D A7 N7 c7, v.oneCell' = true := rec_one
        have hrng := H9.out.rng
        obtain ⟨RL, hRL⟩ : ∃ z, recL K S D A7 N7 c7 = z := ⟨_, rfl⟩
        rw [hRL] at hlen hone hrng
        have hinf : (Tryd.prog.info? 26).map (·.size) = some RL.length := by rw [hlen]; exact info_rec
        obtain ⟨RA, hRA⟩ : ∃ z, RL.toArray = z := ⟨_, rfl⟩
        have hRAL : RA.toList = RL := by rw [← hRA]
        have hsz : RA.size = 35 := by rw [← hRA]; exact hlen
        have hone2 : RA.all (·.oneCell') = true := by rw [← hRA]; exact all_oneCell_toArray hone
        have hth : w9.there r 0 RA.size := by rw [hsz]; exact H9.out.tr
        have hinfA : (Tryd.prog.info? 26).map (·.size) = some RA.size := by rw [hsz]; exact info_rec
        have hr9 := World.rangeAt_setCells_same w9 r 0 RL (by rw [hlen]; exact H9.out.tr)
        have HRA := Lib.hid hRA
        have HRE := Lib.hid hRL
        clear hRA hRL hlen
        go_wp2_with (first
          | (refine wpList_load_mid rfl 26 (.tmp 3) rfl (r + 1) 0 rfl RL _ hrng Tryd.underlying26 rfl hinf ?_; rw [HRA.out])
          | (refine wpList_store_mid rfl 26 (.tmp 2) (.tmp 50) rfl r 0 RA rfl rfl hth hinfA hone2 ?_; rw [hRAL])
          | fail)
        try simp only [Exit.inBlock, Exit.then]
        refine bodyPost_ret (dg.results_row rfl _ r 0 RL _ rfl hr9 Tryd.underlying26 rfl hinf) rfl ?_
        have k9 := keep_o (dg.Keep1.sets r RL 0 w9)
        have hqr : q < r := Nat.lt_of_lt_of_le H9.out.hq H9.out.hr
        exact ⟨A7, N7, c7, by rw [HRE.out, HRA.out], (k9.ow HO9.out (by have := HR.out.hg; have := H9.out.hrg; omega)).base hrw, H9.out.rd.other k9 hqr, H9.out.kp.store k9 H9.out.hr⟩
end Go.Proofs.YtbcgnacfhpahkaaDoor.rc
namespace Go.Proofs.YtbcgnacfhpahkaaDoor.rc
set_option maxRecDepth 20000
open Go.RowKit Mem OM LM DM
set_option linter.unusedVariables false
set_option linter.unusedSimpArgs false
attribute [local go_sem] Oper.semAt_some
theorem fitE_two2 (N F P D I K S : Int) (d : List UInt8) (n : Nat) : fitE N F P D I K S d n = 0 ∨ fitE N F P D I K S d n = 100 := by
  unfold fitE
  split
  · exact Or.inl rfl
  · exact Or.inr rfl
/-- a note's numbers, read one behind the other -/
def readF : List (Nat × Int) → (Nat → Int) → List UInt8 → Bool → (Nat → Int) × List UInt8 × Bool
  | [], v, l, f => (v, l, f)
  | x :: r, v, l, f => readF r (fun j => if j = x.1 then (numS l f).1 else v j) (numS l f).2.1 (numS l f).2.2
theorem readF_snoc (r : List (Nat × Int)) (x : Nat × Int) : ∀ (v : Nat → Int) (l : List UInt8) (f : Bool), readF (r ++ [x]) v l f = ((fun j => if j = x.1 then (numS (readF r v l f).2.1 (readF r v l f).2.2).1 else (readF r v l f).1 j), (numS (readF r v l f).2.1 (readF r v l f).2.2).2.1, (numS (readF r v l f).2.1 (readF r v l f).2.2).2.2) := by
  induction r with
  | nil => intro v l f; rfl
  | cons y r ih => intro v l f; exact ih _ _ _
structure GetS where
  N : Int
  F : Int
  P : Int
  D : Int
  I : Int
  K : Int
  S : Int
  d : List UInt8
  x : List UInt8
  e : Nat
def zeroG : GetS := ⟨0, 0, 0, 0, 0, 0, 0, z32, [], 100⟩
def numsG (l : List UInt8) : Int × (Nat → Int) × List UInt8 × Bool :=
  ((numS l false).1, (readF (flds (numS l false).1) (fun _ => 0) (numS l false).2.1 (numS l false).2.2))
def recG (l : List UInt8) : RecS := if (numsG l).1 = 2 then recS (numsG l).2.2.1 (numsG l).2.2.2 else ⟨0, 0, z32, [], (numsG l).2.2.1, (numsG l).2.2.2⟩
/-- the note of which some bytes are, or why there is none -/
def getS (l : List UInt8) : GetS :=
  if (recG l).f = false ∧ (recG l).l = [] ∧ fitE (numsG l).1 ((numsG l).2.1 1) ((numsG l).2.1 2) ((numsG l).2.1 3) ((numsG l).2.1 4) (recG l).K (recG l).S (recG l).d (recG l).x.length = 0 then
    ⟨(numsG l).1, (numsG l).2.1 1, (numsG l).2.1 2, (numsG l).2.1 3, (numsG l).2.1 4, (recG l).K, (recG l).S, (recG l).d, (recG l).x, 0⟩
  else zeroG
def noteV (N : Int) (v : Nat → Int) (K S : Int) (d : List UInt8) (A : Option Addr) (n c : Nat) : List Value := noteL N (v 1) (v 2) (v 3) (v 4) K S d A n c
theorem noteV_set (N : Int) (v : Nat → Int) (K S : Int) (d : List UInt8) (A : Option Addr) (n c k : Nat) (x : Int) (h1 : 1 ≤ k) (h4 : k ≤ 4) : (noteV N v K S d A n c).set k (.int .i64 x) = noteV N (fun j => if j = k then x else v j) K S d A n c := by
  unfold noteV noteL
  rcases (by omega : k = 1 ∨ k = 2 ∨ k = 3 ∨ k = 4) with rfl | rfl | rfl | rfl <;> simp
def noteZ : List Value := noteL 0 0 0 0 0 0 0 z32 none 0 0
theorem z32_len2 : z32.length = 32 := by decide
theorem noteZ_len : noteZ.length = 40 := noteL_len z32_len2
theorem info_note : (Tryd.prog.info? 28).map (·.size) = some 40 := by kernel_rfl
theorem noteV_len {N : Int} {v : Nat → Int} {K S : Int} {d : List UInt8} {A : Option Addr} {n c : Nat} (hd : d.length = 32) : (noteV N v K S d A n c).length = 40 := noteL_len hd
theorem noteV_one {N : Int} {v : Nat → Int} {K S : Int} {d : List UInt8} {A : Option Addr} {n c : Nat} : ∀ x ∈ noteV N v K S d A n c, x.oneCell' = true := by
  intro x hx
  unfold noteV noteL recL at hx
  simp only [List.mem_cons, List.mem_append, List.not_mem_nil, or_false] at hx
  rcases hx with rfl | rfl | rfl | rfl | rfl | rfl | rfl | hx | rfl
  all_goals (first | rfl | skip)
  obtain ⟨b, _, rfl⟩ := List.mem_map.1 hx
  rfl
/-- the state of 'Get': the answer's note, and its own, which has L -/
structure GS (w wr : World) (b q r g : Nat) (l : List UInt8) (f : Bool) (L : List Value) : Prop where
  rd : Rd2 wr b q l f
  rng : wr.rangeAt g 0 L
  th : wr.there g 0 40
  tr : wr.there r 0 40
  bel : Below w.heap.size w wr
  hr : w.heap.size ≤ r
  hrb : r < b
  hqg : q < g
  hg : g < wr.heap.size
theorem GS.call {w wr w' : World} {b q r g : Nat} {l l' : List UInt8} {f f' : Bool} {L : List Value} (h : GS w wr b q r g l f L) (hr : Rd2 w' b q l' f') (k : Keep2 wr w' b q) : GS w w' b q r g l' f' L := by
  have := h.rd.lt
  have := h.hr
  have := h.hrb
  have := h.hqg
  have := h.hg
  have := h.bel.size
  exact ⟨hr, range_keep2 h.rng k h.hg (by omega) (by omega), there_keep2 h.th k h.hg (by omega) (by omega), there_keep2 h.tr k (by omega) (by omega) (by omega), k.below h.bel (by omega) (by omega) (by omega), h.hr, h.hrb, h.hqg, Nat.lt_of_lt_of_le h.hg k.size⟩
theorem GS.belw {w wr w' : World} {b q r g : Nat} {l : List UInt8} {f : Bool} {L : List Value} (h : GS w wr b q r g l f L) (hb : Below wr.heap.size wr w') : GS w w' b q r g l f L :=
  h.call (h.rd.below hb) (Keep2.ofB b q hb)
theorem GS.set {w wr : World} {b q r g : Nat} {l : List UInt8} {f : Bool} {L : List Value} (h : GS w wr b q r g l f L) (i : Nat) (v : Value) : GS w (wr.setCell ⟨g, i, none⟩ v) b q r g l f (L.set i v) := by
  have := h.rd.lt
  have := h.hr
  have := h.hrb
  have := h.hqg
  have := h.hg
  have := h.bel.size
  have k1 := oct.Keep1.set wr g i v
  exact ⟨h.rd.other k1 (by omega), range_set1 h.rng i v, there_set1 h.th g i v, there_set1 h.tr g i v, k1.below h.bel (by omega) (by omega), h.hr, h.hrb, h.hqg, Nat.lt_of_lt_of_le h.hg k1.size⟩
theorem GS.at {w wr : World} {b q r g : Nat} {l : List UInt8} {f : Bool} {L : List Value} (h : GS w wr b q r g l f L) (i : Nat) (hi : i < 40) : ∃ v, wr.cell? ⟨g, i, none⟩ = some v ∧ wr.frozen? ⟨g, i, none⟩ = false := by
  have := h.th i hi
  rw [Nat.zero_add] at this
  exact ⟨_, Option.eq_some_of_isSome this.1, this.2⟩
theorem range_join {w : World} {g : Nat} {xs ys : List Value} (h : w.rangeAt g 0 xs) (k : w.rangeAt g xs.length ys) : w.rangeAt g 0 (xs ++ ys) := fun i v hv => by
  rw [Nat.zero_add]
  by_cases hi : i < xs.length
  · rw [List.getElem?_append_left hi] at hv
    have := h i v hv
    rwa [Nat.zero_add] at this
  · rw [List.getElem?_append_right (by omega)] at hv
    have := k (i - xs.length) v hv
    rwa [show xs.length + (i - xs.length) = i by omega] at this
theorem GS.recd {w wr : World} {b q r g : Nat} {l : List UInt8} {f : Bool} {N : Int} {v : Nat → Int} (h : GS w wr b q r g l f (noteV N v 0 0 z32 none 0 0)) (K S : Int) (d : List UInt8) (hd : d.length = 32) (A : Option Addr) (n c : Nat) :
    GS w (wr.setCells g 5 (recL K S d A n c)) b q r g l f (noteV N v K S d A n c) := by
  have h1 := h.rd.lt
  have h2 := h.hr
  have h3 := h.hrb
  have h4 := h.hqg
  have h5 := h.hg
  have h6 := h.bel.size
  have k1 := keep_o (dg.Keep1.sets g (recL K S d A n c) 5 wr)
  have hth : wr.there g 5 (recL K S d A n c).length := by rw [recL_len hd]; have := dg.there_sub h.th 5 35 (by omega); rwa [Nat.zero_add] at this
  have r5 := World.rangeAt_setCells_same wr g 5 (recL K S d A n c) hth
  have r0 : wr.rangeAt g 0 [Value.int .i64 N, .int .i64 (v 1), .int .i64 (v 2), .int .i64 (v 3), .int .i64 (v 4)] := fun i u hu => h.rng i u (by
    have hi : i < 5 := by have := (List.getElem?_eq_some_iff.1 hu).1; simpa using this
    unfold noteV noteL
    rcases (by omega : i = 0 ∨ i = 1 ∨ i = 2 ∨ i = 3 ∨ i = 4) with rfl | rfl | rfl | rfl | rfl <;> simpa using hu)
  have r0' := World.rangeAt_setCells_apart r0 g 5 (recL K S d A n c) (Or.inr (Or.inl (by simp)))
  exact ⟨h.rd.other k1 (by omega), range_join r0' r5, World.there_setCells h.th g 5 _, World.there_setCells h.tr g 5 _, k1.below h.bel (by omega) (by omega), h.hr, h.hrb, h.hqg, Nat.lt_of_lt_of_le h.hg k1.size⟩
theorem getS_no {l : List UInt8} {N : Int} {v : Nat → Int} {l2 : List UInt8} {f2 : Bool} {R : RecS} (h1 : numsG l = (N, v, l2, f2)) (h2 : recG l = R) (h : ¬ (R.f = false ∧ R.l = [] ∧ fitE N (v 1) (v 2) (v 3) (v 4) R.K R.S R.d R.x.length = 0)) : getS l = zeroG := by
  unfold getS
  rw [h1, h2, if_neg h]
theorem getS_yes {l : List UInt8} {N : Int} {v : Nat → Int} {l2 : List UInt8} {f2 : Bool} {R : RecS} (h1 : numsG l = (N, v, l2, f2)) (h2 : recG l = R) (h : R.f = false ∧ R.l = [] ∧ fitE N (v 1) (v 2) (v 3) (v 4) R.K R.S R.d R.x.length = 0) : getS l = ⟨N, v 1, v 2, v 3, v 4, R.K, R.S, R.d, R.x, 0⟩ := by
  unfold getS
  rw [h1, h2, if_pos h]
theorem GS.new {w w4 : World} {b q r : Nat} {l : List UInt8} {f : Bool} (h : Rd2 w4 b q l f) (tr : w4.there r 0 40) (bel : Below w.heap.size w w4) (hr : w.heap.size ≤ r) (hrb : r < b) (VL : List Value) (hv : VL.length = 40) (t : TypeId) :
    GS w ((w4.alloc (.cells noteZ.toArray t)).setCells w4.heap.size 0 VL) b q r w4.heap.size l f VL := by
  have hlt := h.lt
  have hql := h.ql
  have hb4 : Below w4.heap.size w4 (w4.alloc (.cells noteZ.toArray t)) := (Below.refl _ _).alloc (Nat.le_refl _) _
  have hth := dg.there_new w4 noteZ t
  rw [noteZ_len] at hth
  have hs : (w4.alloc (.cells noteZ.toArray t)).heap.size = w4.heap.size + 1 := by simp
  have k1 := keep_o (dg.Keep1.sets w4.heap.size VL 0 (w4.alloc (.cells noteZ.toArray t)))
  have tr4 := dg.there_below tr hb4 (by omega) (by omega)
  exact ⟨(h.below hb4).other k1 hql, World.rangeAt_setCells_same _ _ 0 VL (by rw [hv]; exact hth), World.there_setCells hth _ 0 VL, World.there_setCells tr4 _ 0 VL, k1.below (bel.trans (hb4.mono bel.size)) (Nat.le_trans bel.size hb4.size) bel.size, hr, hrb, hql, Nat.lt_of_lt_of_le (by rw [hs]; omega) k1.size⟩
theorem Rd2.new {w2 : World} {b : Nat} {l : List UInt8} (h : oct.Rdr w2 b l) (t : TypeId) : Rd2 (w2.alloc (.cells #[.pointer (some ⟨b, 0, none⟩), .bool false] t)) b w2.heap.size l false := by
  have hb : Below w2.heap.size w2 (w2.alloc (.cells #[.pointer (some ⟨b, 0, none⟩), .bool false] t)) := (Below.refl _ _).alloc (Nat.le_refl _) _
  have hr := dg.range_new w2 [.pointer (some ⟨b, 0, none⟩), .bool false] t
  have ht := dg.there_new w2 [.pointer (some ⟨b, 0, none⟩), .bool false] t
  have c0 := hr 0 _ rfl
  have c1 := hr 1 _ rfl
  have f1 := (ht 1 (by simp)).2
  simp only [Nat.zero_add] at c0 c1 f1
  exact ⟨h.below hb, c0, c1, f1, h.lt, by simp⟩
def GetPost (l : List UInt8) (w : World) (e : Ending) (w' : World) : Prop := ∃ A n c, e = .returned (.tuple #[.agg (noteL (getS l).N (getS l).F (getS l).P (getS l).D (getS l).I (getS l).K (getS l).S (getS l).d A n c).toArray, .int .i64 ((getS l).e : Nat)]) ∧ Ow w' w.heap.size 5 A n c (bv (getS l).x) ∧ Below w.heap.size w w'
theorem build_noteN (N : Int) (w : World) : (Instr.build 28 #[(0, .int .i64 N)]).run Tryd.prog w = .ok (.agg (noteV N (fun _ => 0) 0 0 z32 none 0 0).toArray) w := by kernel_rfl
theorem build_note0 (w : World) : (Instr.build 28 #[]).run Tryd.prog w = .ok (.agg noteZ.toArray) w := by kernel_rfl
set_option maxHeartbeats 8000000 in
theorem get_any (A : Option Addr) (n c B : Nat) (l : List UInt8) (w : World) (h : Rd w B A n (bv l)) (hB : B ≤ w.heap.size) (hn : n ≤ 1048576) :
    Calls Tryd.prog 26 #[.slice A n c] w (GetPost l w) := by
  have h0 := dg.there_new w noteZ 28
  rw [noteZ_len] at h0
  have hb0 : Below w.heap.size w (w.alloc (.cells noteZ.toArray 28)) := (Below.refl _ _).alloc (Nat.le_refl _) _
  have hs0 : (w.alloc (.cells noteZ.toArray 28)).heap.size = w.heap.size + 1 := by simp
  obtain ⟨W, hW⟩ : ∃ z, w.alloc (.cells noteZ.toArray 28) = z := ⟨_, rfl⟩
  rw [hW] at h0 hb0 hs0
  have hrd := oct.read_r A n c _ l W (h.below hb0 hB) (by rw [hs0]; omega) (by omega)
  unfold oct.ReadPost at hrd
  obtain ⟨⟨N, l1, f1⟩, e1⟩ : ∃ z, numS l false = z := ⟨_, rfl⟩
  obtain ⟨⟨v, l2, f2⟩, e2⟩ : ∃ z, readF (flds N) (fun _ => 0) l1 f1 = z := ⟨_, rfl⟩
  have hng : numsG l = (N, v, l2, f2) := by unfold numsG; rw [e1]; simp only; rw [e2]
  have n1 := fun (b q : Nat) (y : World) (hy : Rd2 y b q l false) => num_s b q l false y hy e1
  have HRD := Lib.hid hrd
  have HN1 := Lib.hid n1
  have HE := Lib.hid (And.intro e1 (And.intro e2 hng))
  have hbn := fun y => build_noteN N y
  have hbz := fun y => build_note0 y
  have hvl := noteV_len (N := N) (v := fun _ => 0) (K := 0) (S := 0) (A := none) (n := 0) (c := 0) z32_len2
  have hvo : ∀ x ∈ noteV N (fun _ => 0) 0 0 z32 none 0 0, x.oneCell' = true := noteV_one
  obtain ⟨VL, hVL⟩ : ∃ z, noteV N (fun _ => 0) 0 0 z32 none 0 0 = z := ⟨_, rfl⟩
  rw [hVL] at hvl hvo
  simp only [hVL] at hbn
  obtain ⟨VA, hVA⟩ : ∃ z, VL.toArray = z := ⟨_, rfl⟩
  simp only [hVA] at hbn
  obtain ⟨ZA, hZA⟩ : ∃ z, noteZ.toArray = z := ⟨_, rfl⟩
  simp only [hZA] at hbz
  have hVAL : VA.toList = VL := by rw [← hVA]
  have hVs : VA.size = 40 := by rw [← hVA]; exact hvl
  have hVo : VA.all (·.oneCell') = true := by rw [← hVA]; exact all_oneCell_toArray hvo
  have hinfV : (Tryd.prog.info? 28).map (·.size) = some VA.size := by rw [hVs]; exact info_note
  have HV := Lib.hid (And.intro hVL hVA)
  have hth : ∀ y : World, (y.alloc (.cells noteZ.toArray 28)).there y.heap.size 0 VA.size := fun y => by rw [hVs]; have := dg.there_new y noteZ 28; rwa [noteZ_len] at this
  have HZ := Lib.hid hZA
  clear hrd n1 e1 e2 hng hVL hVA hZA hvl hvo
  unfold GetPost
  go_enter Tryd.func26, Tryd.ntmps26
  go_upto_region 1 with fail
  show Code.wp _ _ _ _ (w.alloc (.cells noteZ.toArray 28))
  rw [hW]
  obtain ⟨r, hr⟩ : ∃ z, w.heap.size = z := ⟨_, rfl⟩
  rw [hr] at h0 hb0 hs0 ⊢
  go_upto_region 2 with (go_at_call 46; refine (HRD.out).mono ?_; rintro e w2 ⟨b, rfl, hb2, hr2, hbw2⟩)
  have hR3 := Rd2.new hr2 70
  have hb3 : Below w2.heap.size w2 (w2.alloc (.cells #[.pointer (some ⟨b, 0, none⟩), .bool false] 70)) := (Below.refl _ _).alloc (Nat.le_refl _) _
  have hrb : r < b := by omega
  have ht3 := dg.there_below (dg.there_below h0 hbw2 (by omega) (by omega)) hb3 (Nat.lt_trans hrb hr2.lt) (Nat.lt_trans hrb hr2.lt)
  have hbel3 : Below r w (w2.alloc (.cells #[.pointer (some ⟨b, 0, none⟩), .bool false] 70)) := (hb0.trans (hbw2.mono (by omega))).trans (hb3.mono (Nat.le_of_lt (Nat.lt_trans hrb hr2.lt)))
  obtain ⟨w3, hw3⟩ : ∃ z, w2.alloc (.cells #[.pointer (some ⟨b, 0, none⟩), .bool false] 70) = z := ⟨_, rfl⟩
  rw [hw3] at hR3 ht3 hbel3 ⊢
  have hbq := hr2.lt
  obtain ⟨q, hq⟩ : ∃ z, w2.heap.size = z := ⟨_, rfl⟩
  rw [hq] at hR3 hbq ⊢
  have H3 := Lib.hid (And.intro hR3 (And.intro ht3 hbel3))
  clear hR3 ht3 hbel3 hw3 hb3 hr2 hbw2 HRD h0 hb0
  go_upto_region 3 with (first
    | (go_at_call 47; refine (HN1.out b q w3 H3.out.1).mono ?_; rintro e w4 ⟨rfl, hr4, hk4⟩)
    | (refine lz.wp_build rfl _ _ rfl (.agg VA) (by simp only [List.map_toArray, List.map_nil, List.map_cons]; exact hbn _) ?_)
    | (refine wpList_store_mid rfl 28 (.tmp 5) (.tmp 12) rfl w4.heap.size 0 VA rfl rfl (hth w4) hinfV hVo ?_)
    | fail)
  show Code.wp _ _ _ _ ((w4.alloc (.cells noteZ.toArray 28)).setCells w4.heap.size 0 VA.toList)
  rw [hVAL]
  have hk4r : w4.there r 0 40 := there_keep2 H3.out.2.1 hk4 (by have := H3.out.1.ql; omega) (by omega) (by omega)
  have hk4b : Below r w w4 := hk4.below H3.out.2.2 (by have := H3.out.1.ql; omega) (by omega) (by omega)
  have H5 : Hid _ := Lib.hid (GS.new hr4 hk4r (by rw [hr]; exact hk4b) (by rw [hr]; exact Nat.le_refl _) hrb VL (by rw [← HV.out.1]; exact noteV_len z32_len2) 28)
  obtain ⟨w5, hw5⟩ : ∃ z, (w4.alloc (.cells noteZ.toArray 28)).setCells w4.heap.size 0 VL = z := ⟨_, rfl⟩
  obtain ⟨g, hg⟩ : ∃ z, w4.heap.size = z := ⟨_, rfl⟩
  rw [hw5, hg] at H5
  rw [hg] at hw5 ⊢
  rw [hw5]
  try simp only [Act.put]
  clear hk4r hk4b hr4 hk4 hw5 HN1 H3 hth
  have c0 : w5.cell? ⟨g, 0, none⟩ = some (.int .i64 N) := H5.out.rng 0 _ (by rw [← HV.out.1]; rfl)
  have hfl := fields_any g N w5 c0
  unfold FldPost at hfl
  have hok := flds_ok N
  have h3 := flds_three N
  obtain ⟨fl, hfle⟩ : ∃ z, flds N = z := ⟨_, rfl⟩
  rw [hfle] at hfl hok h3
  have HF := Lib.hid hfl
  have HFL := Lib.hid hfle
  clear hfl hfle
  go_upto_region 4 with (go_at_call 33; refine (HF.out).mono ?_; rintro e w6 ⟨A6, m6, rfl, hq6, hb6⟩)
  obtain ⟨bb, hA6, hf6⟩ : ∃ bb, (0 < fl.length → A6 = some ⟨bb, 0, none⟩ ∧ w5.heap.size ≤ bb ∧ bb < w6.heap.size) ∧ (0 < fl.length → w6.rangeAt bb 0 (fldL g fl)) := by
    by_cases hl0 : 0 < fl.length
    · obtain ⟨b, e1, e2, e3, e4⟩ := hq6 hl0
      exact ⟨b, fun _ => ⟨e1, e2, e3⟩, fun _ => e4⟩
    · exact ⟨0, fun h => absurd h hl0, fun h => absurd h hl0⟩
  have H6 := Lib.hid (H5.out.belw hb6)
  have hg5 := H5.out.hg
  have hqg := H5.out.hqg
  rw [← HV.out.1] at H6
  have HF6 := Lib.hid hf6
  clear hq6 hf6 HF H5 hb6 c0
  go_wp2_with fail
  go_loopw [15] (fun i wr => ∃ k : Nat, i = .int .i64 k ∧ k ≤ fl.length ∧ Hid (GS w wr b q r g (readF (fl.take k) (fun _ => 0) l1 f1).2.1 (readF (fl.take k) (fun _ => 0) l1 f1).2.2 (noteV N (readF (fl.take k) (fun _ => 0) l1 f1).1 0 0 z32 none 0 0) ∧ (0 < fl.length → wr.rangeAt bb 0 (fldL g fl)) ∧ w6.heap.size ≤ wr.heap.size)) (fun i _ => fl.length - (intOf i).toNat)
  case atStart => exact ⟨0, rfl, Nat.zero_le _, Lib.hid ⟨H6.out, HF6.out, Nat.le_refl _⟩⟩
  case round =>
    obtain ⟨k, rfl, hk, HR⟩ := hrel
    by_cases hkl : k < fl.length
    · have hki : (k : Int) < (fl.length : Int) := by omega
      obtain ⟨rfl, hbb1, hbb2⟩ := hA6 (by omega)
      have hx := fldL_at g fl k hkl
      have hok2 := hok _ (List.getElem_mem hkl)
      have hsn := readF_snoc (fl.take k) fl[k] (fun _ => 0) l1 f1
      rw [← List.take_succ_eq_append_getElem hkl] at hsn
      obtain ⟨⟨vk, lk1, fk1⟩, hz⟩ : ∃ z, readF (fl.take k) (fun _ => 0) l1 f1 = z := ⟨_, rfl⟩
      rw [hz] at HR hsn
      simp only at HR hsn
      obtain ⟨⟨x, l', f'⟩, hns⟩ : ∃ z, numS lk1 fk1 = z := ⟨_, rfl⟩
      rw [hns] at hsn
      simp only at hsn
      obtain ⟨y, hxe⟩ : ∃ y, fl[k] = y := ⟨_, rfl⟩
      rw [hxe] at hx hok2 hsn
      obtain ⟨j, m⟩ := y
      obtain ⟨hj1, hj4⟩ := hok2
      simp only at hx hj1 hj4 hsn
      have hfw := HR.out.2.1 (by omega)
      have hcp : wr.cell? ⟨bb, k * 2, none⟩ = some (.pointer (some ⟨g, j, none⟩)) := by have := hfw _ _ hx.1; rwa [Nat.zero_add, Nat.mul_comm] at this
      have hcm : wr.cell? ⟨bb, k * 2 + 1, none⟩ = some (.int .i64 m) := by have := hfw _ _ hx.2; rwa [Nat.zero_add, Nat.mul_comm] at this
      have HSN := Lib.hid hsn
      have HNS := Lib.hid hns
      have hsz6 := HR.out.2.2
      clear hx hxe hfw hz hsn hns
      have hXb : Below wr.heap.size wr (wr.alloc (.cells #[.pointer (some ⟨g, j, none⟩), .int .i64 m] 59)) := (Below.refl _ _).alloc (Nat.le_refl _) _
      have hXd : Below wr.heap.size wr (wr.alloc (.cells #[.pointer (some ⟨g, j, none⟩), .int .i64 m] 59)).drew := hXb.trans ((lz.below_drew (Below.refl _ _)).mono hXb.size)
      have hX0 := dg.range_new wr [.pointer (some ⟨g, j, none⟩), .int .i64 m] 59
      have x0 := hX0 0 _ rfl
      simp only [Nat.zero_add] at x0
      have hXs : (wr.alloc (.cells #[.pointer (some ⟨g, j, none⟩), .int .i64 m] 59)).heap.size = wr.heap.size + 1 := by simp
      go_upto_region 6 with fail
      obtain ⟨X, hX⟩ : ∃ X, wr.alloc (.cells #[.pointer (some ⟨g, j, none⟩), .int .i64 m] 59) = X := ⟨_, rfl⟩
      rw [hX] at x0 hXb hXd hXs ⊢
      obtain ⟨p, hp⟩ : ∃ p, wr.heap.size = p := ⟨_, rfl⟩
      have hGX := HR.out.1.belw hXd
      rw [hp] at x0 hXs hXb hXd ⊢
      have hbq2 := HR.out.1.rd.lt
      have hqg2 := HR.out.1.hqg
      have hgp := HR.out.1.hg
      rw [hp] at hgp
      have hpb : p ≠ b := by omega
      have hpq : p ≠ q := by omega
      have hpg : p ≠ g := by omega
      have hS0 : X.drew.cell? ⟨p, 0, none⟩ = some (.pointer (some ⟨g, j, none⟩)) := x0
      have hpz : p < X.drew.heap.size := by show p < X.heap.size; omega
      obtain ⟨wz, hwz⟩ : ∃ z, X.drew = z := ⟨_, rfl⟩
      have hNX := num_s b q lk1 fk1 X.drew hGX.rd HNS.out
      rw [hwz] at hGX hNX hXd
      have HGX := Lib.hid hGX
      have HNX := Lib.hid hNX
      clear hGX hNX
      refine wp_region_held_drew (S := fun y => y.cell? ⟨p, 0, none⟩ = some (.pointer (some ⟨g, j, none⟩))) (by kernel_rfl) hS0 (fun hHeld => ?_)
      rw [hwz] at hHeld hS0 hpz ⊢
      clear hwz
      refine wpAnyH_take (i := 0) (oi := { dst := some 19, op := Op.fieldAddr 59 (Operand.tmp 7) 0, type := 0, pos := "record.go:159", after := #[], guard := none }) (v := .pointer (some ⟨p, 0, none⟩)) rfl (by kernel_rfl) (by kernel_rfl) (by kernel_rfl) (fun _ _ _ h => h) (Or.inl ⟨by rfl, ?hy1_0⟩) (by assumption) ?rest1_0
      case hy1_0 => (intro w hSw; (try dsimp only at hSw); go_simp; try with_reducible rfl)
      try simp only [Act.put, List.setIfInBounds_toArray, List.set_cons_zero, List.set_cons_succ]
      refine wpAnyH_take (i := 1) (oi := { dst := some 20, op := Op.load 57 (Operand.tmp 19), type := 57, pos := "record.go:159", after := #[{ on := 0, ground := Ground.data }], guard := none }) (v := .pointer (some ⟨g, j, none⟩)) rfl (by kernel_rfl) (by kernel_rfl) (by kernel_rfl) (fun _ _ _ h => h) (Or.inl ⟨by rfl, ?hy1_1⟩) (by assumption) ?rest1_1
      case hy1_1 => (intro w hSw; (try dsimp only at hSw); go_simp; try with_reducible rfl)
      try simp only [Act.put, List.setIfInBounds_toArray, List.set_cons_zero, List.set_cons_succ]
      refine wpAnyH_ready (rs := [2]) (by kernel_rfl) (by simp) ?_
      refine AllReadyH.cons (o := { dst := some 21, op := Op.call { callee := Callee.value (Operand.func 47), args := #[Operand.tmp 4], argTypes := #[70] }, type := 3, pos := "record.go:159", after := #[], guard := none }) rfl (fun K hK => ?_) AllReadyH.nil
      go_simp
      refine (HNX.out).mono ?_
      rintro e w8 ⟨rfl, hr8, hk8⟩
      have H8 := Lib.hid (HGX.out.call hr8 hk8)
      have s8 : w8.cell? ⟨p, 0, none⟩ = some (.pointer (some ⟨g, j, none⟩)) := (hk8.cell (a := ⟨p, 0, none⟩) hpz hpb hpq).trans hS0
      have hp8 : p < w8.heap.size := Nat.lt_of_lt_of_le hpz hk8.size
      refine hK.out _ _ s8 (fun _ => ?_)
      clear hK K
      try simp only [Act.put, List.setIfInBounds_toArray, List.set_cons_zero, List.set_cons_succ]
      refine wpAnyH_take (i := 3) (oi := { dst := some 22, op := Op.nilCheck (Operand.tmp 20), type := 0, pos := "record.go:159", after := #[{ on := 1, ground := Ground.data }, { on := 0, ground := Ground.phase }, { on := 1, ground := Ground.phase }, { on := 2, ground := Ground.phase }], guard := none }) (v := .pointer (some ⟨g, j, none⟩)) rfl (by kernel_rfl) (by kernel_rfl) (by kernel_rfl) (fun _ _ _ h => h) (Or.inl ⟨by rfl, ?hy1_3⟩) (by assumption) ?rest1_3
      case hy1_3 => (intro w hSw; (try dsimp only at hSw); go_simp; try with_reducible rfl)
      try simp only [Act.put, List.setIfInBounds_toArray, List.set_cons_zero, List.set_cons_succ]
      refine wpAnyH_ready (rs := [4]) (by kernel_rfl) (by simp) ?_
      refine AllReadyH.cons (o := { dst := none, op := Op.store 3 (Operand.tmp 22) (Operand.tmp 21), type := 0, pos := "record.go:159", after := #[{ on := 3, ground := Ground.data }, { on := 2, ground := Ground.data }, { on := 2, ground := Ground.chain }, { on := 0, ground := Ground.phase }, { on := 1, ground := Ground.phase }, { on := 2, ground := Ground.phase }], guard := none }) rfl (fun K hK => ?_) AllReadyH.nil
      obtain ⟨v9, z9, y9⟩ := H8.out.at j (by omega)
      go_simp
      refine hK.out _ _ (((oct.Keep1.set w8 g j (.int .i64 x)).cell (a := ⟨p, 0, none⟩) hp8 hpg).trans s8) (fun _ => ?_)
      clear hK K
      try simp only [Act.put, List.setIfInBounds_toArray, List.set_cons_zero, List.set_cons_succ]
      refine wpAnyH_done (by kernel_rfl) ?_ _
      have H9 := Lib.hid (H8.out.set j (.int .i64 x))
      rw [noteV_set _ _ _ _ _ _ _ _ _ _ hj1 hj4] at H9
      have hr9 : 0 < fl.length → (w8.setCell ⟨g, j, none⟩ (.int .i64 x)).rangeAt bb 0 (fldL g fl) := fun h0 => by
        have q1 := dg.range_below (HR.out.2.1 h0) hXd (by omega)
        have q2 := range_keep2 q1 hk8 (by have := hXd.size; omega) (by omega) (by omega)
        exact fun i u hu => ((oct.Keep1.set w8 g j (.int .i64 x)).cell (a := ⟨bb, 0 + i, none⟩) (by have := hXd.size; have := hk8.size; show bb < _; omega) (by show bb ≠ g; omega)).trans (q2 i u hu)
      have hs9 : w6.heap.size ≤ (w8.setCell ⟨g, j, none⟩ (.int .i64 x)).heap.size := by rw [World.size_setCell]; have := hXd.size; have := hk8.size; omega
      have HR9 := Lib.hid hr9
      clear hr9
      go_wp2_with fail
      go_roundw
      case rel => exact ⟨k + 1, by go_num, by omega, Lib.hid ⟨by rw [HSN.out]; exact H9.out, HR9.out, hs9⟩⟩
      case measure => simp [intOf]; omega
    · obtain rfl : k = fl.length := by omega
      have hW := HR.out.1
      rw [List.take_of_length_le (Nat.le_refl _), ← HFL.out, HE.out.2.1] at hW
      simp only at hW
      have HW := Lib.hid hW
      have c00 : wr.cell? ⟨g, 0, none⟩ = some (.int .i64 N) := HW.out.rng 0 _ rfl
      clear hW HR HF6 H6
      by_cases h2 : N = 2
      · subst h2
        obtain ⟨R, hR⟩ : ∃ z, recS l2 f2 = z := ⟨_, rfl⟩
        have hrec := record_any b q l2 f2 wr HW.out.rd
        rw [hR] at hrec
        unfold RecPost at hrec
        have hRd : R.d.length = 32 := by rw [← hR]; exact bytesS_len 32 _ _
        have hrg : recG l = R := by unfold recG; rw [HE.out.2.2, if_pos rfl]; exact hR
        have HRG := Lib.hid hrg
        have HREC := Lib.hid hrec
        have hgw := HW.out.hg
        clear hrg hrec hR
        go_upto_region 10 with (first
          | (go_at_call 48; refine (HREC.out).mono ?_; rintro e w9 ⟨A9, n9, c9, rfl, ho9, hr9, hk9⟩; have H9 := Lib.hid (HW.out.call hr9 hk9); have hsz9 : (recL R.K R.S R.d A9 n9 c9).toArray.size = 35 := (by rw [List.size_toArray]; exact recL_len hRd); have hth9 : w9.there g 5 35 := (by have := dg.there_sub H9.out.th 5 35 (by omega); rwa [Nat.zero_add] at this); have hone9 : (recL R.K R.S R.d A9 n9 c9).toArray.all (·.oneCell') = true := all_oneCell_toArray rec_one)
          | (refine wpList_store_mid rfl 26 (.tmp 28) (.tmp 27) rfl g 5 (recL R.K R.S R.d A9 n9 c9).toArray rfl rfl (by rw [hsz9]; exact hth9) (by rw [hsz9]; exact info_rec) hone9 ?_)
          | fail)
        show Code.wp _ _ _ _ (w9.setCells g 5 (recL R.K R.S R.d A9 n9 c9))
        have H10 := Lib.hid (H9.out.recd R.K R.S R.d hRd A9 n9 c9)
        have ho10 : Ow (w9.setCells g 5 (recL R.K R.S R.d A9 n9 c9)) wr.heap.size 5 A9 n9 c9 (bv R.x) := (keep_o (dg.Keep1.sets g _ 5 w9)).ow ho9 hgw
        obtain ⟨w10, hw10⟩ : ∃ z, w9.setCells g 5 (recL R.K R.S R.d A9 n9 c9) = z := ⟨_, rfl⟩
        rw [hw10] at H10 ho10 ⊢
        have HO9 : Hid (Ow w10 wr.heap.size 5 A9 n9 c9 (bv R.x)) := Lib.hid ho10
        have hww : w.heap.size ≤ wr.heap.size := HW.out.bel.size
        have hrw : r < wr.heap.size := by have := HW.out.hg; have := HW.out.hqg; have := HW.out.rd.lt; have := HW.out.hrb; omega
        clear hw10 ho9 hr9 hk9 hsz9 hth9 hone9 ho10 HREC H9 HW c00
        try simp only [Act.put]
        have c1 := H10.out.rd.c1
        have c0 := H10.out.rd.c0
        have hrng := H10.out.rng
        have hnl := noteV_len (N := 2) (v := v) (K := R.K) (S := R.S) (A := A9) (n := n9) (c := c9) hRd
        have hno : ∀ x ∈ noteV 2 v (R.K) (R.S) (R.d) (A9) (n9) (c9), x.oneCell' = true := noteV_one
        have hft := fun y => fits_any 2 (v 1) (v 2) (v 3) (v 4) (R.K) (R.S) (R.d) hRd (A9) (n9) (c9) y
        have hxn : (R.x).length = n9 := by have := HO9.out.len; rw [bv_len] at this; exact this
        obtain ⟨NL, hNL⟩ : ∃ z, noteV 2 v (R.K) (R.S) (R.d) (A9) (n9) (c9) = z := ⟨_, rfl⟩
        have hNL2 : noteL 2 (v 1) (v 2) (v 3) (v 4) (R.K) (R.S) (R.d) (A9) (n9) (c9) = NL := hNL
        rw [hNL] at hrng hnl hno
        simp only [hNL2] at hft
        have hinfN : (Tryd.prog.info? 28).map (·.size) = some NL.length := by rw [hnl]; exact info_note
        have hinfZ : (Tryd.prog.info? 28).map (·.size) = some noteZ.length := by rw [noteZ_len]; exact info_note
        have hzs : ZA.size = 40 := by rw [← HZ.out]; exact noteZ_len
        have hinfZA : (Tryd.prog.info? 28).map (·.size) = some ZA.size := by rw [hzs]; exact info_note
        have hzo : ZA.all (·.oneCell') = true := by rw [← HZ.out]; exact all_oneCell_toArray (show ∀ x ∈ noteV 0 (fun _ => 0) 0 0 z32 none 0 0, x.oneCell' = true from noteV_one)
        have hzl : ZA.toList = noteZ := by rw [← HZ.out]
        obtain ⟨NA, hNA⟩ : ∃ z, NL.toArray = z := ⟨_, rfl⟩
        simp only [hNA] at hft
        have hnal : NA.toList = NL := by rw [← hNA]
        have hnas : NA.size = 40 := by rw [← hNA]; exact hnl
        have hnao : NA.all (·.oneCell') = true := by rw [← hNA]; exact all_oneCell_toArray hno
        have hinfNA : (Tryd.prog.info? 28).map (·.size) = some NA.size := by rw [hnas]; exact info_note
        have HNA := Lib.hid hNA
        have HNL := Lib.hid hNL2
        have hend := oct.end_any b (R.l) w10 H10.out.rd.rdr
        have HEND := Lib.hid hend
        have HFT := Lib.hid hft
        have hqr : r < w10.heap.size := by have := H10.out.hg; have := H10.out.hqg; have := H10.out.rd.lt; have := H10.out.hrb; omega
        clear hNA hNL hNL2 hend hft hno
        by_cases hf : R.f = true
        · have hG := getS_no HE.out.2.2 HRG.out (by rintro ⟨h1, _⟩; (try simp only at h1); rw [hf] at h1; cases h1)
          rw [hf] at c1
          go_wp2_with (first
            | (refine lz.wp_build rfl _ _ rfl (.agg ZA) (by simp only [List.map_toArray, List.map_nil]; exact hbz _) ?_)
            | (refine wpList_store_mid rfl 28 (.tmp 2) (.tmp 42) rfl r 0 ZA rfl rfl (by rw [hzs]; exact H10.out.tr) hinfZA hzo ?_; rw [hzl])
            | fail)
          try simp only [Exit.inBlock, Exit.then]
          refine bodyPost_ret (lz.results_ct rfl _ ⟨r, 0, none⟩ _ rfl (run_loadVar_mid (P := Tryd.prog) _ r 0 28 noteZ _ (World.rangeAt_setCells_same w10 r 0 noteZ (by rw [noteZ_len]; exact H10.out.tr)) Tryd.underlying28 rfl hinfZ)) rfl ?_
          rw [hG]
          exact ⟨none, 0, 0, rfl, Ow.nil _ _ _, (keep_o (dg.Keep1.sets r noteZ 0 w10)).below H10.out.bel (by have := (H10.out.bel).size; omega) (by omega)⟩
        · have hf0 : R.f = false := by simpa using hf
          rw [hf0] at c1
          by_cases hl : (R.l).length = 0
          · have hfin : (if (R.l).length = 0 then (0 : Int) else 3) = 0 := if_pos hl
            rw [hfin] at HEND
            have hl0 : R.l = [] := List.eq_nil_of_length_eq_zero hl
            rcases fitE_two2 2 (v 1) (v 2) (v 3) (v 4) (R.K) (R.S) (R.d) (n9) with hfe | hfe
            · have hG := getS_yes HE.out.2.2 HRG.out ⟨hf0, hl0, by (try simp only); rw [hxn]; exact hfe⟩
              simp only [hfe] at HFT
              go_wp2_with (first
                | (go_at_call 49; refine (HEND.out).mono ?_; rintro e w' ⟨rfl, hw'⟩; subst hw'; try rw [hfin])
                | (refine wpList_load_mid_g rfl 28 (.tmp 5) rfl g 0 rfl NL _ hrng Tryd.underlying28 rfl hinfN ?_; rw [HNA.out])
                | (go_at_call 15; refine (HFT.out _).mono ?_; rintro e w9 ⟨rfl, hb9⟩; have tr9 := dg.there_below H10.out.tr hb9 hqr hqr; have hrng9 := dg.range_below hrng hb9 H10.out.hg; have hbel9 := (H10.out.bel).trans (hb9.mono H10.out.bel.size))
                | (refine wpList_load_mid_g rfl 28 (.tmp 5) rfl g 0 rfl NL _ hrng9 Tryd.underlying28 rfl hinfN ?_; rw [HNA.out])
                | (refine wpList_store_mid rfl 28 (.tmp 2) (.tmp 43) rfl r 0 NA rfl rfl (by rw [hnas]; exact tr9) hinfNA hnao ?_; rw [hnal])
                | fail)
              try simp only [Exit.inBlock, Exit.then]
              refine bodyPost_ret (lz.results_ct rfl _ ⟨r, 0, none⟩ _ rfl (run_loadVar_mid (P := Tryd.prog) _ r 0 28 NL _ (World.rangeAt_setCells_same w9 r 0 NL (by rw [hnl]; exact tr9)) Tryd.underlying28 rfl hinfN)) rfl ?_
              rw [hG]
              have k9 := keep_o (dg.Keep1.sets r NL 0 w9)
              refine ⟨A9, n9, c9, by simp only; rw [HNL.out, HNA.out]; rfl, ?_, k9.below hbel9 (by have := hbel9.size; omega) (by omega)⟩
              exact (k9.ow (HO9.out.below hb9 (Nat.le_refl _)) hrw).base hww
            · have hG := getS_no HE.out.2.2 HRG.out (by rintro ⟨_, _, h3⟩; (try simp only at h3); rw [hxn, hfe] at h3; cases h3)
              simp only [hfe] at HFT
              go_wp2_with (first
                | (go_at_call 49; refine (HEND.out).mono ?_; rintro e w' ⟨rfl, hw'⟩; subst hw'; try rw [hfin])
                | (refine wpList_load_mid_g rfl 28 (.tmp 5) rfl g 0 rfl NL _ hrng Tryd.underlying28 rfl hinfN ?_; rw [HNA.out])
                | (go_at_call 15; refine (HFT.out _).mono ?_; rintro e w9 ⟨rfl, hb9⟩; have tr9 := dg.there_below H10.out.tr hb9 hqr hqr; have hrng9 := dg.range_below hrng hb9 H10.out.hg; have hbel9 := (H10.out.bel).trans (hb9.mono H10.out.bel.size))
                | (refine lz.wp_build rfl _ _ rfl (.agg ZA) (by simp only [List.map_toArray, List.map_nil]; exact hbz _) ?_)
                | (refine wpList_store_mid rfl 28 (.tmp 2) (.tmp 42) rfl r 0 ZA rfl rfl (by rw [hzs]; exact tr9) hinfZA hzo ?_; rw [hzl])
                | fail)
              try simp only [Exit.inBlock, Exit.then]
              refine bodyPost_ret (lz.results_ct rfl _ ⟨r, 0, none⟩ _ rfl (run_loadVar_mid (P := Tryd.prog) _ r 0 28 noteZ _ (World.rangeAt_setCells_same w9 r 0 noteZ (by rw [noteZ_len]; exact tr9)) Tryd.underlying28 rfl hinfZ)) rfl ?_
              rw [hG]
              exact ⟨none, 0, 0, rfl, Ow.nil _ _ _, (keep_o (dg.Keep1.sets r noteZ 0 w9)).below hbel9 (by have := (hbel9).size; omega) (by omega)⟩
          · have hfin : (if (R.l).length = 0 then (0 : Int) else 3) = 3 := if_neg hl
            rw [hfin] at HEND
            have hG := getS_no HE.out.2.2 HRG.out (by rintro ⟨_, h2, _⟩; (try simp only at h2); exact hl (by rw [h2]; rfl))
            go_wp2_with (first
              | (go_at_call 49; refine (HEND.out).mono ?_; rintro e w' ⟨rfl, hw'⟩; subst hw'; try rw [hfin])
              | (refine lz.wp_build rfl _ _ rfl (.agg ZA) (by simp only [List.map_toArray, List.map_nil]; exact hbz _) ?_)
              | (refine wpList_store_mid rfl 28 (.tmp 2) (.tmp 42) rfl r 0 ZA rfl rfl (by rw [hzs]; exact H10.out.tr) hinfZA hzo ?_; rw [hzl])
              | fail)
            try simp only [Exit.inBlock, Exit.then]
            refine bodyPost_ret (lz.results_ct rfl _ ⟨r, 0, none⟩ _ rfl (run_loadVar_mid (P := Tryd.prog) _ r 0 28 noteZ _ (World.rangeAt_setCells_same w10 r 0 noteZ (by rw [noteZ_len]; exact H10.out.tr)) Tryd.underlying28 rfl hinfZ)) rfl ?_
            rw [hG]
            exact ⟨none, 0, 0, rfl, Ow.nil _ _ _, (keep_o (dg.Keep1.sets r noteZ 0 w10)).below H10.out.bel (by have := (H10.out.bel).size; omega) (by omega)⟩
      · have hN2 : (N == 2) = false := beq_eq_false_iff_ne.2 h2
        have HON : Hid (Ow wr w.heap.size 5 none 0 0 (bv [])) := Lib.hid (Ow.nil _ _ _)
        have hrg : recG l = ⟨0, 0, z32, [], l2, f2⟩ := by unfold recG; rw [HE.out.2.2, if_neg h2]
        have HRG := Lib.hid hrg
        clear hrg
        have c1 := HW.out.rd.c1
        have c0 := HW.out.rd.c0
        have hrng := HW.out.rng
        have hnl := noteV_len (N := N) (v := v) (K := 0) (S := 0) (A := none) (n := 0) (c := 0) z32_len2
        have hno : ∀ x ∈ noteV N v (0) (0) (z32) (none) (0) (0), x.oneCell' = true := noteV_one
        have hft := fun y => fits_any N (v 1) (v 2) (v 3) (v 4) (0) (0) (z32) z32_len2 (none) (0) (0) y
        have hxn : (([] : List UInt8)).length = 0 := by have := HON.out.len; rw [bv_len] at this; exact this
        obtain ⟨NL, hNL⟩ : ∃ z, noteV N v (0) (0) (z32) (none) (0) (0) = z := ⟨_, rfl⟩
        have hNL2 : noteL N (v 1) (v 2) (v 3) (v 4) (0) (0) (z32) (none) (0) (0) = NL := hNL
        rw [hNL] at hrng hnl hno
        simp only [hNL2] at hft
        have hinfN : (Tryd.prog.info? 28).map (·.size) = some NL.length := by rw [hnl]; exact info_note
        have hinfZ : (Tryd.prog.info? 28).map (·.size) = some noteZ.length := by rw [noteZ_len]; exact info_note
        have hzs : ZA.size = 40 := by rw [← HZ.out]; exact noteZ_len
        have hinfZA : (Tryd.prog.info? 28).map (·.size) = some ZA.size := by rw [hzs]; exact info_note
        have hzo : ZA.all (·.oneCell') = true := by rw [← HZ.out]; exact all_oneCell_toArray (show ∀ x ∈ noteV 0 (fun _ => 0) 0 0 z32 none 0 0, x.oneCell' = true from noteV_one)
        have hzl : ZA.toList = noteZ := by rw [← HZ.out]
        obtain ⟨NA, hNA⟩ : ∃ z, NL.toArray = z := ⟨_, rfl⟩
        simp only [hNA] at hft
        have hnal : NA.toList = NL := by rw [← hNA]
        have hnas : NA.size = 40 := by rw [← hNA]; exact hnl
        have hnao : NA.all (·.oneCell') = true := by rw [← hNA]; exact all_oneCell_toArray hno
        have hinfNA : (Tryd.prog.info? 28).map (·.size) = some NA.size := by rw [hnas]; exact info_note
        have HNA := Lib.hid hNA
        have HNL := Lib.hid hNL2
        have hend := oct.end_any b (l2) wr HW.out.rd.rdr
        have HEND := Lib.hid hend
        have HFT := Lib.hid hft
        have hqr : r < wr.heap.size := by have := HW.out.hg; have := HW.out.hqg; have := HW.out.rd.lt; have := HW.out.hrb; omega
        clear hNA hNL hNL2 hend hft hno
        by_cases hf : f2 = true
        · have hG := getS_no HE.out.2.2 HRG.out (by rintro ⟨h1, _⟩; (try simp only at h1); rw [hf] at h1; cases h1)
          rw [hf] at c1
          go_wp2_with (first
            | (refine lz.wp_build rfl _ _ rfl (.agg ZA) (by simp only [List.map_toArray, List.map_nil]; exact hbz _) ?_)
            | (refine wpList_store_mid rfl 28 (.tmp 2) (.tmp 42) rfl r 0 ZA rfl rfl (by rw [hzs]; exact HW.out.tr) hinfZA hzo ?_; rw [hzl])
            | fail)
          try simp only [Exit.inBlock, Exit.then]
          refine bodyPost_ret (lz.results_ct rfl _ ⟨r, 0, none⟩ _ rfl (run_loadVar_mid (P := Tryd.prog) _ r 0 28 noteZ _ (World.rangeAt_setCells_same wr r 0 noteZ (by rw [noteZ_len]; exact HW.out.tr)) Tryd.underlying28 rfl hinfZ)) rfl ?_
          rw [hG]
          exact ⟨none, 0, 0, rfl, Ow.nil _ _ _, (keep_o (dg.Keep1.sets r noteZ 0 wr)).below HW.out.bel (by have := (HW.out.bel).size; omega) (by omega)⟩
        · have hf0 : f2 = false := by simpa using hf
          rw [hf0] at c1
          by_cases hl : (l2).length = 0
          · have hfin : (if (l2).length = 0 then (0 : Int) else 3) = 0 := if_pos hl
            rw [hfin] at HEND
            have hl0 : l2 = [] := List.eq_nil_of_length_eq_zero hl
            rcases fitE_two2 N (v 1) (v 2) (v 3) (v 4) (0) (0) (z32) (0) with hfe | hfe
            · have hG := getS_yes HE.out.2.2 HRG.out ⟨hf0, hl0, by (try simp only); rw [hxn]; exact hfe⟩
              simp only [hfe] at HFT
              go_wp2_with (first
                | (go_at_call 49; refine (HEND.out).mono ?_; rintro e w' ⟨rfl, hw'⟩; subst hw'; try rw [hfin])
                | (refine wpList_load_mid_g rfl 28 (.tmp 5) rfl g 0 rfl NL _ hrng Tryd.underlying28 rfl hinfN ?_; rw [HNA.out])
                | (go_at_call 15; refine (HFT.out _).mono ?_; rintro e w9 ⟨rfl, hb9⟩; have tr9 := dg.there_below HW.out.tr hb9 hqr hqr; have hrng9 := dg.range_below hrng hb9 HW.out.hg; have hbel9 := (HW.out.bel).trans (hb9.mono HW.out.bel.size))
                | (refine wpList_load_mid_g rfl 28 (.tmp 5) rfl g 0 rfl NL _ hrng9 Tryd.underlying28 rfl hinfN ?_; rw [HNA.out])
                | (refine wpList_store_mid rfl 28 (.tmp 2) (.tmp 43) rfl r 0 NA rfl rfl (by rw [hnas]; exact tr9) hinfNA hnao ?_; rw [hnal])
                | fail)
              try simp only [Exit.inBlock, Exit.then]
              refine bodyPost_ret (lz.results_ct rfl _ ⟨r, 0, none⟩ _ rfl (run_loadVar_mid (P := Tryd.prog) _ r 0 28 NL _ (World.rangeAt_setCells_same w9 r 0 NL (by rw [hnl]; exact tr9)) Tryd.underlying28 rfl hinfN)) rfl ?_
              rw [hG]
              have k9 := keep_o (dg.Keep1.sets r NL 0 w9)
              refine ⟨none, 0, 0, by simp only; rw [HNL.out, HNA.out]; rfl, ?_, k9.below hbel9 (by have := hbel9.size; omega) (by omega)⟩
              exact Ow.nil _ _ _
            · have hG := getS_no HE.out.2.2 HRG.out (by rintro ⟨_, _, h3⟩; (try simp only at h3); rw [hxn, hfe] at h3; cases h3)
              simp only [hfe] at HFT
              go_wp2_with (first
                | (go_at_call 49; refine (HEND.out).mono ?_; rintro e w' ⟨rfl, hw'⟩; subst hw'; try rw [hfin])
                | (refine wpList_load_mid_g rfl 28 (.tmp 5) rfl g 0 rfl NL _ hrng Tryd.underlying28 rfl hinfN ?_; rw [HNA.out])
                | (go_at_call 15; refine (HFT.out _).mono ?_; rintro e w9 ⟨rfl, hb9⟩; have tr9 := dg.there_below HW.out.tr hb9 hqr hqr; have hrng9 := dg.range_below hrng hb9 HW.out.hg; have hbel9 := (HW.out.bel).trans (hb9.mono HW.out.bel.size))
                | (refine lz.wp_build rfl _ _ rfl (.agg ZA) (by simp only [List.map_toArray, List.map_nil]; exact hbz _) ?_)
                | (refine wpList_store_mid rfl 28 (.tmp 2) (.tmp 42) rfl r 0 ZA rfl rfl (by rw [hzs]; exact tr9) hinfZA hzo ?_; rw [hzl])
                | fail)
              try simp only [Exit.inBlock, Exit.then]
              refine bodyPost_ret (lz.results_ct rfl _ ⟨r, 0, none⟩ _ rfl (run_loadVar_mid (P := Tryd.prog) _ r 0 28 noteZ _ (World.rangeAt_setCells_same w9 r 0 noteZ (by rw [noteZ_len]; exact tr9)) Tryd.underlying28 rfl hinfZ)) rfl ?_
              rw [hG]
              exact ⟨none, 0, 0, rfl, Ow.nil _ _ _, (keep_o (dg.Keep1.sets r noteZ 0 w9)).below hbel9 (by have := (hbel9).size; omega) (by omega)⟩
          · have hfin : (if (l2).length = 0 then (0 : Int) else 3) = 3 := if_neg hl
            rw [hfin] at HEND
            have hG := getS_no HE.out.2.2 HRG.out (by rintro ⟨_, h2, _⟩; (try simp only at h2); exact hl (by rw [h2]; rfl))
            go_wp2_with (first
              | (go_at_call 49; refine (HEND.out).mono ?_; rintro e w' ⟨rfl, hw'⟩; subst hw'; try rw [hfin])
              | (refine lz.wp_build rfl _ _ rfl (.agg ZA) (by simp only [List.map_toArray, List.map_nil]; exact hbz _) ?_)
              | (refine wpList_store_mid rfl 28 (.tmp 2) (.tmp 42) rfl r 0 ZA rfl rfl (by rw [hzs]; exact HW.out.tr) hinfZA hzo ?_; rw [hzl])
              | fail)
            try simp only [Exit.inBlock, Exit.then]
            refine bodyPost_ret (lz.results_ct rfl _ ⟨r, 0, none⟩ _ rfl (run_loadVar_mid (P := Tryd.prog) _ r 0 28 noteZ _ (World.rangeAt_setCells_same wr r 0 noteZ (by rw [noteZ_len]; exact HW.out.tr)) Tryd.underlying28 rfl hinfZ)) rfl ?_
            rw [hG]
            exact ⟨none, 0, 0, rfl, Ow.nil _ _ _, (keep_o (dg.Keep1.sets r noteZ 0 wr)).below HW.out.bel (by have := (HW.out.bel).size; omega) (by omega)⟩
end Go.Proofs.YtbcgnacfhpahkaaDoor.rc
namespace Go.Proofs.YtbcgnacfhpahkaaDoor.rc
set_option maxRecDepth 20000
open Go.RowKit Mem OM LM DM
set_option linter.unusedVariables false
set_option linter.unusedSimpArgs false
attribute [local go_sem] Oper.semAt_some
set_option maxHeartbeats 4000000 in
theorem refSameNote_any (N F P D I K S : Int) (d : List UInt8) (hd : d.length = 32) (A1 A2 : Option Addr) (n1 c1 n2 c2 B : Nat) (x : List UInt8) (w : World) (h1 : Rd w B A1 n1 (bv x)) (h2 : Rd w B A2 n2 (bv x)) (hB : B ≤ w.heap.size) :
    Calls Tryd.prog 28 #[.agg (noteL N F P D I K S d A1 n1 c1).toArray, .agg (noteL N F P D I K S d A2 n2 c2).toArray] w fun e w' => e = .returned (.bool true) ∧ Below w.heap.size w w' := by
  have hg1 := dg.range_new w (noteL N F P D I K S d A1 n1 c1) 28
  have hb1 : Below w.heap.size w (w.alloc (.cells (noteL N F P D I K S d A1 n1 c1).toArray 28)) := (Below.refl _ _).alloc (Nat.le_refl _) _
  have hs1 : (w.alloc (.cells (noteL N F P D I K S d A1 n1 c1).toArray 28)).heap.size = w.heap.size + 1 := by simp
  obtain ⟨RA1, hRA1⟩ : ∃ z, (noteL N F P D I K S d A1 n1 c1).toArray = z := ⟨_, rfl⟩
  rw [hRA1] at hg1 hb1 hs1 ⊢
  obtain ⟨W1, hW1⟩ : ∃ z, w.alloc (.cells RA1 28) = z := ⟨_, rfl⟩
  rw [hW1] at hg1 hb1 hs1
  have hg2 := dg.range_new W1 (noteL N F P D I K S d A2 n2 c2) 28
  have hb2 : Below W1.heap.size W1 (W1.alloc (.cells (noteL N F P D I K S d A2 n2 c2).toArray 28)) := (Below.refl _ _).alloc (Nat.le_refl _) _
  have hs2 : (W1.alloc (.cells (noteL N F P D I K S d A2 n2 c2).toArray 28)).heap.size = W1.heap.size + 1 := by simp
  obtain ⟨RA2, hRA2⟩ : ∃ z, (noteL N F P D I K S d A2 n2 c2).toArray = z := ⟨_, rfl⟩
  rw [hRA2] at hg2 hb2 hs2 ⊢
  obtain ⟨W2, hW2⟩ : ∃ z, W1.alloc (.cells RA2 28) = z := ⟨_, rfl⟩
  rw [hW2] at hg2 hb2 hs2
  have hg12 := dg.range_below hg1 hb2 (by rw [hs1]; exact Nat.lt_succ_self _)
  have hbW : Below w.heap.size w W2 := hb1.trans (hb2.mono hb1.size)
  have a0 : W2.cell? ⟨w.heap.size, 0, none⟩ = some (.int .i64 N) := hg12 0 _ rfl
  have a1 : W2.cell? ⟨w.heap.size, 1, none⟩ = some (.int .i64 F) := hg12 1 _ rfl
  have a2 : W2.cell? ⟨w.heap.size, 2, none⟩ = some (.int .i64 P) := hg12 2 _ rfl
  have a3 : W2.cell? ⟨w.heap.size, 3, none⟩ = some (.int .i64 D) := hg12 3 _ rfl
  have a4 : W2.cell? ⟨w.heap.size, 4, none⟩ = some (.int .i64 I) := hg12 4 _ rfl
  have e0 : W2.cell? ⟨W1.heap.size, 0, none⟩ = some (.int .i64 N) := hg2 0 _ rfl
  have e1 : W2.cell? ⟨W1.heap.size, 1, none⟩ = some (.int .i64 F) := hg2 1 _ rfl
  have e2 : W2.cell? ⟨W1.heap.size, 2, none⟩ = some (.int .i64 P) := hg2 2 _ rfl
  have e3 : W2.cell? ⟨W1.heap.size, 3, none⟩ = some (.int .i64 D) := hg2 3 _ rfl
  have e4 : W2.cell? ⟨W1.heap.size, 4, none⟩ = some (.int .i64 I) := hg2 4 _ rfl
  have s1 := note_rec hg12
  have s2 := note_rec hg2
  have hsame := refSame_any K S d hd A1 A2 n1 c1 n2 c2 _ x W2 ((h1.below hbW hB).more (Nat.le_trans hB hbW.size)) ((h2.below hbW hB).more (Nat.le_trans hB hbW.size)) (Nat.le_refl _)
  have hi1 : (Tryd.prog.info? 26).map (·.size) = some (recL K S d A1 n1 c1).length := by rw [recL_len hd]; exact info_rec
  have hi2 : (Tryd.prog.info? 26).map (·.size) = some (recL K S d A2 n2 c2).length := by rw [recL_len hd]; exact info_rec
  obtain ⟨L1, hL1⟩ : ∃ z, recL K S d A1 n1 c1 = z := ⟨_, rfl⟩
  obtain ⟨L2, hL2⟩ : ∃ z, recL K S d A2 n2 c2 = z := ⟨_, rfl⟩
  rw [hL1] at s1 hi1 hsame
  rw [hL2] at s2 hi2 hsame
  have k0 : (N == N) = true := beq_self_eq_true N
  have k1 : (F == F) = true := beq_self_eq_true F
  have k2 : (P == P) = true := beq_self_eq_true P
  have k3 : (D == D) = true := beq_self_eq_true D
  have k4 : (I == I) = true := beq_self_eq_true I
  have HW := Lib.hid (And.intro hW1 hW2)
  have HBW := Lib.hid hbW
  have HS := Lib.hid hsame
  clear hg1 hg2 hg12 hb1 hb2 hs1 hs2 h1 h2 hRA1 hRA2 hbW hL1 hL2 hsame
  go_enter Tryd.func28, Tryd.ntmps28
  go_upto_region 1 with fail
  try rw [HW.out.1]
  try rw [HW.out.2]
  go_wp2_with (first
    | (refine wpList_load_mid_g rfl 26 (.tmp 39) rfl w.heap.size 5 rfl L1 _ s1 Tryd.underlying26 rfl hi1 ?_)
    | (refine wpList_load_mid_g rfl 26 (.tmp 41) rfl W1.heap.size 5 rfl L2 _ s2 Tryd.underlying26 rfl hi2 ?_)
    | (go_at_call 20; refine (HS.out).mono ?_; rintro e w9 ⟨rfl, hb9⟩)
    | fail)
  go_ret
  exact ⟨by simp, HBW.out.trans (hb9.mono HBW.out.size)⟩
end Go.Proofs.YtbcgnacfhpahkaaDoor.rc
namespace Go.Proofs.YtbcgnacfhpahkaaDoor.rc
open Go.RowKit Mem OM LM DM
set_option linter.unusedVariables false
theorem numS_num (a : Int) (h0 : 0 ≤ a) (h1 : a ≤ 9223372036854775807) (r : List UInt8) (f : Bool) : numS (numB a.toNat ++ r) f = (a, r, f) := by
  unfold numS
  rw [look_num a.toNat r (by omega)]
  simp only
  rw [← numB_len, List.drop_left]
  simp [heedB]
  omega
theorem numS_ok {l l' : List UInt8} {a : Int} {f : Bool} (h : numS l f = (a, l', false)) : f = false ∧ 0 ≤ a ∧ a ≤ 9223372036854775807 ∧ l = numB a.toNat ++ l' := by
  unfold numS at h
  simp only [Prod.mk.injEq] at h
  obtain ⟨h1, h2, h3⟩ := h
  unfold heedB at h3
  simp only [Bool.or_eq_false_iff, decide_eq_false_iff_not, Decidable.not_not] at h3
  obtain ⟨h4, h5⟩ := h3
  obtain ⟨k, hk⟩ : ∃ k, lk l = k := ⟨_, rfl⟩
  obtain ⟨n, s, e⟩ := k
  rw [hk] at h1 h2 h5
  simp only at h1 h2 h5
  obtain rfl : e = 0 := by omega
  obtain ⟨q1, q2, q3, q4⟩ := look_ok hk
  refine ⟨h4, by omega, by omega, ?_⟩
  rw [← h1, Int.toNat_natCast, ← q1, ← h2, List.take_append_drop]
theorem bytesS_app (r : List UInt8) (f : Bool) : ∀ (d : List UInt8) (n : Nat), n ≤ d.length → bytesS n (d ++ r) f = (d.take n, d.drop n ++ r, f) := by
  intro d n
  induction n with
  | zero => intro _; simp [bytesS]
  | succ n ih =>
    intro hn
    have := ih (by omega)
    unfold bytesS
    rw [this]
    have hd : d.drop n = d[n] :: d.drop (n + 1) := List.drop_eq_getElem_cons (by omega)
    simp only [hd, List.cons_append, oct.byteR, List.drop_succ_cons, List.drop_zero]
    rw [List.take_succ_eq_append_getElem (by omega)]
    simp [heedB]
theorem bytesS_ok (l : List UInt8) (f : Bool) : ∀ (n : Nat) (d l' : List UInt8), bytesS n l f = (d, l', false) → f = false ∧ l = d ++ l' := by
  intro n
  induction n with
  | zero => intro d l' h; simp only [bytesS, Prod.mk.injEq] at h; obtain ⟨rfl, rfl, rfl⟩ := h; exact ⟨rfl, rfl⟩
  | succ n ih =>
    intro d l' h
    unfold bytesS at h
    obtain ⟨z, hz⟩ : ∃ z, bytesS n l f = z := ⟨_, rfl⟩
    obtain ⟨d1, l1, f1⟩ := z
    rw [hz] at h
    simp only [Prod.mk.injEq] at h
    obtain ⟨h1, h2, h3⟩ := h
    cases l1 with
    | nil => simp [oct.byteR, heedB] at h3
    | cons y t =>
      simp only [oct.byteR, List.drop_succ_cons, List.drop_zero] at h1 h2 h3
      have hf1 : f1 = false := by unfold heedB at h3; simp at h3; exact h3
      rw [hf1] at hz
      obtain ⟨q1, q2⟩ := ih _ _ hz
      refine ⟨q1, ?_⟩
      rw [q2, ← h1, ← h2]
      simp
theorem textR_num (x r : List UInt8) (hx : x.length ≤ 256) : oct.textR (numB x.length ++ (x ++ r)) 256 = (x, (numB x.length).length + x.length, 0) := by
  unfold oct.textR
  rw [look_num x.length _ (by omega)]
  simp only
  rw [if_pos trivial, if_neg (by omega), ← numB_len, if_neg (by simp only [List.length_append]; omega), List.drop_left, List.take_left]
theorem textR_ok {l x : List UInt8} {u : Nat} (h : oct.textR l 256 = (x, u, 0)) : l = numB x.length ++ (x ++ l.drop u) ∧ x.length ≤ 256 := by
  unfold oct.textR at h
  obtain ⟨k, hk⟩ : ∃ k, lk l = k := ⟨_, rfl⟩
  obtain ⟨n, s, e⟩ := k
  rw [hk] at h
  simp only at h
  split at h
  · rename_i h0
    subst h0
    split at h
    · simp at h
    · rename_i h1
      split at h
      · simp at h
      · rename_i h2
        simp only [Prod.mk.injEq] at h
        obtain ⟨hx, hu, _⟩ := h
        obtain ⟨q1, q2, q3, q4⟩ := look_ok hk
        have hxl : x.length = n := by rw [← hx, List.length_take, List.length_drop]; omega
        refine ⟨?_, by omega⟩
        rw [hxl, ← q1, ← hx, ← hu, ← List.drop_drop, List.take_append_drop, List.take_append_drop]
  · rename_i h0
    simp only [Prod.mk.injEq] at h
    exact absurd h.2.2 h0
theorem recS_put (K S : Int) (d x r : List UInt8) (f : Bool) (hK : 0 ≤ K ∧ K ≤ 9223372036854775807) (hS : 0 ≤ S ∧ S ≤ 9223372036854775807) (hd : d.length = 32) (hx : x.length ≤ 256) : recS (recB K S d x ++ r) f = ⟨K, S, d, x, r, f⟩ := by
  have e : recB K S d x ++ r = numB K.toNat ++ (numB S.toNat ++ (d ++ (numB x.length ++ (x ++ r)))) := by simp [recB]
  have e1 := numS_num K hK.1 hK.2 (numB S.toNat ++ (d ++ (numB x.length ++ (x ++ r)))) f
  have e2 := numS_num S hS.1 hS.2 (d ++ (numB x.length ++ (x ++ r))) f
  have e3 := bytesS_app (numB x.length ++ (x ++ r)) f d 32 (by omega)
  rw [List.take_of_length_le (by omega), List.drop_of_length_le (by omega), List.nil_append] at e3
  have e4 := textR_num x r hx
  rw [e]
  unfold recS
  simp only [e1, e2, e3, e4]
  rw [← List.append_assoc, ← List.length_append, List.drop_left]
  simp [heedB]
theorem recS_ok {l : List UInt8} {f : Bool} {R : RecS} (h : recS l f = R) (hf : R.f = false) : f = false ∧ l = recB R.K R.S R.d R.x ++ R.l ∧ (0 ≤ R.K ∧ R.K ≤ 9223372036854775807) ∧ (0 ≤ R.S ∧ R.S ≤ 9223372036854775807) ∧ R.x.length ≤ 256 := by
  unfold recS at h
  obtain ⟨⟨K, l1, f1⟩, h1⟩ : ∃ z, numS l f = z := ⟨_, rfl⟩
  obtain ⟨⟨S, l2, f2⟩, h2⟩ : ∃ z, numS l1 f1 = z := ⟨_, rfl⟩
  obtain ⟨⟨D, l3, f3⟩, h3⟩ : ∃ z, bytesS 32 l2 f2 = z := ⟨_, rfl⟩
  obtain ⟨⟨X, u, er⟩, h4⟩ : ∃ z, oct.textR l3 256 = z := ⟨_, rfl⟩
  simp only [h1, h2, h3, h4] at h
  subst h
  simp only at hf ⊢
  unfold heedB at hf
  simp only [Bool.or_eq_false_iff, decide_eq_false_iff_not, Decidable.not_not] at hf
  obtain ⟨hf3, her⟩ := hf
  obtain rfl : er = 0 := by omega
  subst hf3
  obtain ⟨hf2, q3⟩ := bytesS_ok _ _ _ _ _ h3
  subst hf2
  obtain ⟨hf1, a1, a2, q2⟩ := numS_ok h2
  subst hf1
  obtain ⟨hf0, b1, b2, q1⟩ := numS_ok h1
  obtain ⟨q4, c1⟩ := textR_ok h4
  refine ⟨hf0, ?_, ⟨b1, b2⟩, ⟨a1, a2⟩, c1⟩
  rw [q1, q2, q3]
  conv => lhs; rw [q4]
  simp [recB]
theorem flds_1 : flds 1 = [(1, 1073741824), (2, 65535), (3, 65535)] := rfl
theorem flds_2 (N : Int) (h : N = 2 ∨ N = 5 ∨ N = 6) : flds N = [(1, 1073741824), (4, 1073741824)] := by rcases h with rfl | rfl | rfl <;> rfl
theorem flds_3 (N : Int) (h : N = 3 ∨ N = 4) : flds N = [(1, 1073741824)] := by rcases h with rfl | rfl <;> rfl
theorem flds_0 (N : Int) (h1 : N ≠ 1) (h2 : N ≠ 2) (h3 : N ≠ 3) (h4 : N ≠ 4) (h5 : N ≠ 5) (h6 : N ≠ 6) : flds N = [] := by
  unfold flds
  rw [if_neg h1, if_neg (by omega), if_neg (by omega)]
theorem readF_ok (N : Int) {l l2 : List UInt8} {f : Bool} {v : Nat → Int} (h : readF (flds N) (fun _ => 0) l f = (v, l2, false)) : f = false ∧ l = numsV (flds N) (v0 (v 1) (v 2) (v 3) (v 4)) ++ l2 ∧ ∀ k, -9223372036854775808 ≤ v0 (v 1) (v 2) (v 3) (v 4) k ∧ v0 (v 1) (v 2) (v 3) (v 4) k ≤ 9223372036854775807 := by
  by_cases k1 : N = 1
  · subst k1
    rw [flds_1] at h ⊢
    simp only [readF] at h
    obtain ⟨⟨a, la, fa⟩, ha⟩ : ∃ z, numS l f = z := ⟨_, rfl⟩
    obtain ⟨⟨b, lb, fb⟩, hb⟩ : ∃ z, numS la fa = z := ⟨_, rfl⟩
    obtain ⟨⟨c, lc, fc⟩, hc⟩ : ∃ z, numS lb fb = z := ⟨_, rfl⟩
    simp only [ha, hb, hc, Prod.mk.injEq] at h
    obtain ⟨rfl, rfl, rfl⟩ := h
    obtain ⟨rfl, c1, c2, c3⟩ := numS_ok hc
    obtain ⟨rfl, b1, b2, b3⟩ := numS_ok hb
    obtain ⟨rfl, a1, a2, a3⟩ := numS_ok ha
    refine ⟨rfl, ?_, fun k => ?_⟩
    · rw [a3, b3, c3]; simp [numsV, v0]
    · unfold v0; simp; repeat' split
      all_goals omega
  by_cases k2 : N = 2 ∨ N = 5 ∨ N = 6
  · rw [flds_2 N k2] at h ⊢
    simp only [readF] at h
    obtain ⟨⟨a, la, fa⟩, ha⟩ : ∃ z, numS l f = z := ⟨_, rfl⟩
    obtain ⟨⟨b, lb, fb⟩, hb⟩ : ∃ z, numS la fa = z := ⟨_, rfl⟩
    simp only [ha, hb, Prod.mk.injEq] at h
    obtain ⟨rfl, rfl, rfl⟩ := h
    obtain ⟨rfl, b1, b2, b3⟩ := numS_ok hb
    obtain ⟨rfl, a1, a2, a3⟩ := numS_ok ha
    refine ⟨rfl, ?_, fun k => ?_⟩
    · rw [a3, b3]; simp [numsV, v0]
    · unfold v0; simp; repeat' split
      all_goals omega
  by_cases k3 : N = 3 ∨ N = 4
  · rw [flds_3 N k3] at h ⊢
    simp only [readF] at h
    obtain ⟨⟨a, la, fa⟩, ha⟩ : ∃ z, numS l f = z := ⟨_, rfl⟩
    simp only [ha, Prod.mk.injEq] at h
    obtain ⟨rfl, rfl, rfl⟩ := h
    obtain ⟨rfl, a1, a2, a3⟩ := numS_ok ha
    refine ⟨rfl, ?_, fun k => ?_⟩
    · rw [a3]; simp [numsV, v0]
    · unfold v0; simp; repeat' split
      all_goals omega
  · rw [flds_0 N k1 (by omega) (by omega) (by omega) (by omega) (by omega)] at h ⊢
    simp only [readF, Prod.mk.injEq] at h
    obtain ⟨rfl, rfl, rfl⟩ := h
    exact ⟨rfl, by simp [numsV], fun k => by unfold v0; simp⟩
/-- what is read, put again, is what was read -/
theorem getS_ok {l : List UInt8} (h : (getS l).e = 0) : putB (getS l).N (getS l).F (getS l).P (getS l).D (getS l).I (getS l).K (getS l).S (getS l).d (getS l).x = l ∧ fitE (getS l).N (getS l).F (getS l).P (getS l).D (getS l).I (getS l).K (getS l).S (getS l).d (getS l).x.length = 0 ∧ (getS l).d.length = 32 ∧ (getS l).x.length ≤ 256 ∧
    (0 ≤ (getS l).N ∧ (getS l).N ≤ 9223372036854775807) ∧ (0 ≤ (getS l).K ∧ (getS l).K ≤ 9223372036854775807) ∧ (0 ≤ (getS l).S ∧ (getS l).S ≤ 9223372036854775807) ∧ (∀ k, -9223372036854775808 ≤ v0 (getS l).F (getS l).P (getS l).D (getS l).I k ∧ v0 (getS l).F (getS l).P (getS l).D (getS l).I k ≤ 9223372036854775807) := by
  obtain ⟨⟨N, v, l2, f2⟩, hng⟩ : ∃ z, numsG l = z := ⟨_, rfl⟩
  obtain ⟨R, hrg⟩ : ∃ z, recG l = z := ⟨_, rfl⟩
  by_cases hc : R.f = false ∧ R.l = [] ∧ fitE N (v 1) (v 2) (v 3) (v 4) R.K R.S R.d R.x.length = 0
  · have hg := getS_yes hng hrg hc
    rw [hg]
    simp only
    obtain ⟨c1, c2, c3⟩ := hc
    have hng2 := hng
    unfold numsG at hng2
    obtain ⟨⟨N', l1, f1⟩, e1⟩ : ∃ z, numS l false = z := ⟨_, rfl⟩
    rw [e1] at hng2
    simp only [Prod.mk.injEq] at hng2
    obtain ⟨rfl, e2⟩ := hng2
    have e2' : readF (flds N') (fun _ => 0) l1 f1 = (v, l2, f2) := e2
    unfold recG at hrg
    rw [hng] at hrg
    simp only at hrg
    by_cases h2 : N' = 2
    · rw [if_pos h2] at hrg
      obtain ⟨r1, r2, r3, r4, r5⟩ := recS_ok hrg c1
      subst r1
      obtain ⟨s1, s2, s3⟩ := readF_ok N' e2'
      subst s1
      obtain ⟨_, t1, t2, t3⟩ := numS_ok e1
      refine ⟨?_, c3, ?_, r5, ⟨t1, t2⟩, r3, r4, s3⟩
      · unfold putB
        rw [if_pos h2, t3, s2, r2, c2]
        simp
      · rw [← hrg]; exact bytesS_len 32 _ _
    · rw [if_neg h2] at hrg
      subst hrg
      simp only at c1 c2 c3 ⊢
      subst c1
      subst c2
      obtain ⟨s1, s2, s3⟩ := readF_ok N' e2'
      subst s1
      obtain ⟨_, t1, t2, t3⟩ := numS_ok e1
      refine ⟨?_, c3, z32_len2, by simp, ⟨t1, t2⟩, by omega, by omega, s3⟩
      unfold putB
      rw [if_neg h2, t3, s2]
      simp
  · rw [getS_no hng hrg hc] at h
    simp [zeroG] at h
theorem readF_put (N F P D I : Int) (r : List UInt8) (hv : fitsV N F P D I = true) : (1 ≤ N ∧ N ≤ 6) ∧ ∃ v, readF (flds N) (fun _ => 0) (numsV (flds N) (v0 F P D I) ++ r) false = (v, r, false) ∧ v 1 = F ∧ v 2 = P ∧ v 3 = D ∧ v 4 = I := by
  by_cases k1 : N = 1
  · subst k1
    rw [fitsV_1] at hv
    obtain ⟨a, b, c, rfl⟩ := of_decide_eq_true hv
    refine ⟨by omega, (fun j => if j = 3 then D else if j = 2 then P else if j = 1 then F else 0), ?_, by simp, by simp, by simp, by simp⟩
    rw [flds_1]
    have e : numsV [(1, 1073741824), (2, 65535), (3, 65535)] (v0 F P D 0) ++ r = numB F.toNat ++ (numB P.toNat ++ (numB D.toNat ++ r)) := by simp [numsV, v0]
    rw [e]
    have e1 := numS_num F (by omega) (by omega) (numB P.toNat ++ (numB D.toNat ++ r)) false
    have e2 := numS_num P (by omega) (by omega) (numB D.toNat ++ r) false
    have e3 := numS_num D (by omega) (by omega) r false
    simp only [readF, e1, e2, e3]
  by_cases k2 : N = 2 ∨ N = 5 ∨ N = 6
  · rw [fitsV_2 _ _ _ _ _ k2] at hv
    obtain ⟨a, b, rfl, rfl⟩ := of_decide_eq_true hv
    refine ⟨by omega, (fun j => if j = 4 then I else if j = 1 then F else 0), ?_, by simp, by simp, by simp, by simp⟩
    rw [flds_2 N k2]
    have e : numsV [(1, 1073741824), (4, 1073741824)] (v0 F 0 0 I) ++ r = numB F.toNat ++ (numB I.toNat ++ r) := by simp [numsV, v0]
    rw [e]
    have e1 := numS_num F (by omega) (by omega) (numB I.toNat ++ r) false
    have e2 := numS_num I (by omega) (by omega) r false
    simp only [readF, e1, e2]
  by_cases k3 : N = 3 ∨ N = 4
  · rw [fitsV_3 _ _ _ _ _ k3] at hv
    obtain ⟨a, rfl, rfl, rfl⟩ := of_decide_eq_true hv
    refine ⟨by omega, (fun j => if j = 1 then F else 0), ?_, by simp, by simp, by simp, by simp⟩
    rw [flds_3 N k3]
    have e : numsV [(1, 1073741824)] (v0 F 0 0 0) ++ r = numB F.toNat ++ r := by simp [numsV, v0]
    rw [e]
    have e1 := numS_num F (by omega) (by omega) r false
    simp only [readF, e1]
  · rw [fitsV_0 _ _ _ _ _ k1 (by omega) (by omega) (by omega) (by omega) (by omega)] at hv
    cases hv
theorem chk_in {K S : Int} {n : Nat} (h : chk K S n = 0) : (1 ≤ K ∧ K ≤ 3) ∧ (1 ≤ S ∧ S ≤ 256) ∧ n ≤ 256 := by
  unfold chk at h
  split at h
  · rename_i hc
    unfold fitsR fitsS fitsD at hc
    simp only [Bool.and_eq_true, decide_eq_true_eq] at hc
    obtain ⟨h1, h2⟩ := hc
    split at h2
    · have := of_decide_eq_true h2; omega
    · split at h2
      · have := of_decide_eq_true h2; omega
      · split at h2
        · have := of_decide_eq_true h2; omega
        · cases h2
  · cases h
/-- notes are read as they were put -/
theorem getS_put (N F P D I K S : Int) (d x : List UInt8) (hd : d.length = 32) (h : fitE N F P D I K S d x.length = 0) : getS (putB N F P D I K S d x) = ⟨N, F, P, D, I, K, S, d, x, 0⟩ := by
  have hvn : fitsV N F P D I = true ∧ fitsN N K S d x.length = true := by
    unfold fitE at h
    split at h
    · rename_i hc
      simpa using hc
    · cases h
  obtain ⟨hv, hn⟩ := hvn
  obtain ⟨hN, v, hr, v1, v2, v3, v4⟩ := readF_put N F P D I (if N = 2 then recB K S d x else []) hv
  have e : putB N F P D I K S d x = numB N.toNat ++ (numsV (flds N) (v0 F P D I) ++ (if N = 2 then recB K S d x else [])) := by unfold putB; rw [List.append_assoc]
  have e0 := numS_num N (by omega) (by omega) (numsV (flds N) (v0 F P D I) ++ (if N = 2 then recB K S d x else [])) false
  have hng : numsG (putB N F P D I K S d x) = (N, v, (if N = 2 then recB K S d x else []), false) := by
    unfold numsG
    rw [e, e0]
    simp only
    rw [hr]
  by_cases h2 : N = 2
  · have hch : chk K S x.length = 0 := by
      rw [h2, fitsN_2] at hn
      exact of_decide_eq_true hn
    obtain ⟨c1, c2, c3⟩ := chk_in hch
    have hrg : recG (putB N F P D I K S d x) = ⟨K, S, d, x, [], false⟩ := by
      unfold recG
      rw [hng]
      simp only
      rw [if_pos h2, if_pos h2]
      have := recS_put K S d x [] false (by omega) (by omega) hd c3
      rwa [List.append_nil] at this
    rw [getS_yes hng hrg ⟨rfl, rfl, by rw [v1, v2, v3, v4]; exact h⟩, v1, v2, v3, v4]
  · rw [fitsN_o _ _ _ _ _ h2] at hn
    obtain ⟨rfl, rfl, rfl, hx⟩ := of_decide_eq_true hn
    obtain rfl : x = [] := List.eq_nil_of_length_eq_zero hx
    have hrg : recG (putB N F P D I 0 0 z32 []) = ⟨0, 0, z32, [], [], false⟩ := by
      unfold recG
      rw [hng]
      simp only
      rw [if_neg h2, if_neg h2]
    rw [getS_yes hng hrg ⟨rfl, rfl, by rw [v1, v2, v3, v4]; exact h⟩, v1, v2, v3, v4]
end Go.Proofs.YtbcgnacfhpahkaaDoor.rc
namespace Go.Proofs.YtbcgnacfhpahkaaDoor.rc
set_option maxRecDepth 20000
open Go.RowKit Mem OM LM DM
set_option linter.unusedVariables false
set_option linter.unusedSimpArgs false
attribute [local go_sem] Oper.semAt_some
/-- the document's reader: its bytes, and how many were read -/
structure DR (w : World) (b : Nat) (A : Option Addr) (n c : Nat) (L : List UInt8) (at_ : Nat) : Prop where
  c0 : w.cell? ⟨b, 0, none⟩ = some (.slice A n c)
  c1 : w.cell? ⟨b, 1, none⟩ = some (.int .i64 (at_ : Nat))
  fz : w.frozen? ⟨b, 1, none⟩ = false
  lt : b < w.heap.size
  le : at_ ≤ n
  rd : Rd w b A n (bv L)
  hc : n ≤ c
  hn : n ≤ 1048576
theorem DR.below {w w' : World} {b : Nat} {A : Option Addr} {n c : Nat} {L : List UInt8} {at_ : Nat} (h : DR w b A n c L at_) (hb : Below w.heap.size w w') : DR w' b A n c L at_ :=
  ⟨(hb.cell (p := ⟨b, 0, none⟩) h.lt).trans h.c0, (hb.cell (p := ⟨b, 1, none⟩) h.lt).trans h.c1, (World.frozen?_of_block (w := w) (hb.block b h.lt)).trans h.fz, Nat.lt_of_lt_of_le h.lt hb.size, h.le, h.rd.below hb (Nat.le_of_lt h.lt), h.hc, h.hn⟩
theorem DR.other {w w' : World} {b k : Nat} {A : Option Addr} {n c : Nat} {L : List UInt8} {at_ : Nat} (h : DR w b A n c L at_) (k1 : oct.Keep1 w w' k) (hk : b < k) : DR w' b A n c L at_ :=
  ⟨(k1.cell (a := ⟨b, 0, none⟩) h.lt (Nat.ne_of_lt hk)).trans h.c0, (k1.cell (a := ⟨b, 1, none⟩) h.lt (Nat.ne_of_lt hk)).trans h.c1, (World.frozen?_of_block (w := w) (k1.block b h.lt (Nat.ne_of_lt hk))).trans h.fz, Nat.lt_of_lt_of_le h.lt k1.size, h.le, k1.rd h.rd (Nat.le_of_lt h.lt) (fun hp a ha => by obtain ⟨b0, off, e, hl0, _⟩ := h.rd.addr hp; rw [e] at ha; injection ha with ha; subst ha; simp only; omega), h.hc, h.hn⟩
theorem DR.put {w : World} {b : Nat} {A : Option Addr} {n c : Nat} {L : List UInt8} {at_ : Nat} (h : DR w b A n c L at_) (k : Nat) (hk : k ≤ n) (x : Int) (hx : x = (k : Int)) : DR (w.setCell ⟨b, 1, none⟩ (.int .i64 x)) b A n c L k := by
  subst hx
  have h0 := h.c0
  have h1 := h.c1
  have k1 := oct.Keep1.set w b 1 (.int .i64 (k : Nat))
  refine ⟨?_, ?_, ?_, Nat.lt_of_lt_of_le h.lt k1.size, hk, k1.rd h.rd (Nat.le_of_lt h.lt) (fun hp a ha => by obtain ⟨b0, off, e, hl0, _⟩ := h.rd.addr hp; rw [e] at ha; injection ha with ha; subst ha; simp only; omega), h.hc, h.hn⟩
  · go_simp
  · go_simp
  · rw [World.frozen?_setCell]; exact h.fz
theorem cut_l_run {w : World} {B : Nat} {A : Option Addr} {n c : Nat} {L : List UInt8} (hr : Rd w B A n (bv L)) (k : Nat) (hk : k ≤ n) (hc : n ≤ c) : ∃ A' c', (∀ y : World, (Instr.sliceAt 24 (.slice A n c) (some (.int .i64 (k : Nat))) none none).run Tryd.prog y = .ok (.slice A' (n - k) c') y) ∧ n - k ≤ c' ∧ ∀ (y : World), Rd y B A n (bv L) → Rd y B A' (n - k) (bv (L.drop k)) := by
  obtain ⟨A', e, hA⟩ := cut_value A k n c hk hc
  refine ⟨A', c - k, fun y => ?_, by omega, fun y hy => ?_⟩
  · obtain ⟨ht, hs⟩ := sizeOf_one (P := Tryd.prog) (w := y) oct.u8ty
    have hrun := run_slice_l (P := Tryd.prog) (w := y) 24 A n c ht .i64 (k : Nat) (by omega) (by omega)
    rw [hs, ← run_sliceAt_slice _ 24 _ _ _ _ ht] at hrun
    simp only [Result.andThen_ok] at hrun
    rw [Int.toNat_natCast, e] at hrun
    exact hrun
  · have hr' := hy.cut (l := k) (m := n - k) (by omega) (A' := A') hA
    rw [List.take_of_length_le (by rw [List.length_drop, hy.len]; omega), ← bv_drop] at hr'
    exact hr'
def DNumPost (b : Nat) (A : Option Addr) (n c : Nat) (L : List UInt8) (at_ : Nat) (w : World) (e : Ending) (w' : World) : Prop := e = .returned (.tuple #[.int .i64 ((lk (L.drop at_)).1 : Nat), .int .i64 ((lk (L.drop at_)).2.2 : Nat)]) ∧ DR w' b A n c L (at_ + (lk (L.drop at_)).2.1) ∧ oct.Keep1 w w' b
set_option maxHeartbeats 4000000 in
theorem dnum_any (b : Nat) (A : Option Addr) (n c : Nat) (L : List UInt8) (at_ : Nat) (w : World) (h : DR w b A n c L at_) :
    Calls Tryd.prog 50 #[.pointer (some ⟨b, 0, none⟩)] w (DNumPost b A n c L at_ w) := by
  have hl : L.length = n := by rw [← h.rd.len, bv_len]
  have c0 := h.c0
  have c1 := h.c1
  have hlt := h.lt
  have hle := h.le
  have hn := h.hn
  obtain ⟨A9, c9, hsl, hc9, hrd9⟩ := cut_l_run h.rd at_ h.le h.hc
  have hlks := oct.lk_size (L.drop at_)
  have hlk := fun (y : World) (hy : Below w.heap.size w y) => oct.refLook_any A9 (n - at_) c9 b (L.drop at_) y (hrd9 y (h.rd.below hy (Nat.le_of_lt hlt))) (Nat.le_trans (Nat.le_of_lt hlt) hy.size) hc9 (by omega)
  unfold oct.LookPost at hlk
  have hdl : (L.drop at_).length = n - at_ := by rw [List.length_drop, hl]
  unfold DNumPost
  obtain ⟨⟨v1, v2, v3⟩, hv⟩ : ∃ z, lk (L.drop at_) = z := ⟨_, rfl⟩
  simp only [hv] at hlk hlks ⊢
  rw [hdl] at hlks
  have hv2 : v2 ≤ n - at_ := hlks.1
  have HLK := Lib.hid hlk
  have H := Lib.hid h
  clear hlk h hrd9 hlks hl hdl hv
  have hS0 : Below w.heap.size w w.drew := lz.below_drew (Below.refl _ _)
  go_enter Tryd.func50, Tryd.ntmps50
  go_upto_region 1 with fail
  obtain ⟨wz, hwz⟩ : ∃ z, w.drew = z := ⟨_, rfl⟩
  have HS := Lib.hid hS0
  rw [hwz] at HS
  refine wp_region_held_drew (S := fun y => Below w.heap.size w y) (by kernel_rfl) hS0 (fun hHeld => ?_)
  rw [hwz] at hHeld ⊢
  clear hwz hS0
  refine wpAnyH_take (i := 0) (oi := { dst := some 8, op := Op.move (Operand.tmp 0), type := 74, pos := "ref.go:102", after := #[], guard := none }) (v := .pointer (some ⟨b, 0, none⟩)) rfl (by kernel_rfl) (by kernel_rfl) (by kernel_rfl) (fun _ _ _ h => h) (Or.inl ⟨by rfl, ?hy1_0⟩) (by assumption) ?rest1_0
  case hy1_0 => (intro w hSw; (try dsimp only at hSw); go_simp; try with_reducible rfl)
  try simp only [Act.put, List.setIfInBounds_toArray, List.set_cons_zero, List.set_cons_succ]
  refine wpAnyH_take (i := 1) (oi := { dst := some 9, op := Op.nilCheck (Operand.tmp 8), type := 0, pos := "ref.go:102", after := #[{ on := 0, ground := Ground.data }], guard := none }) (v := .pointer (some ⟨b, 0, none⟩)) rfl (by kernel_rfl) (by kernel_rfl) (by kernel_rfl) (fun _ _ _ h => h) (Or.inl ⟨by rfl, ?hy1_1⟩) (by assumption) ?rest1_1
  case hy1_1 => (intro w hSw; (try dsimp only at hSw); go_simp; try with_reducible rfl)
  try simp only [Act.put, List.setIfInBounds_toArray, List.set_cons_zero, List.set_cons_succ]
  refine wpAnyH_take (i := 2) (oi := { dst := some 10, op := Op.fieldAddr 76 (Operand.tmp 9) 0, type := 0, pos := "ref.go:102", after := #[{ on := 1, ground := Ground.data }], guard := none }) (v := .pointer (some ⟨b, 0, none⟩)) rfl (by kernel_rfl) (by kernel_rfl) (by kernel_rfl) (fun _ _ _ h => h) (Or.inl ⟨by rfl, ?hy1_2⟩) (by assumption) ?rest1_2
  case hy1_2 => (intro w hSw; (try dsimp only at hSw); go_simp; try with_reducible rfl)
  try simp only [Act.put, List.setIfInBounds_toArray, List.set_cons_zero, List.set_cons_succ]
  refine wpAnyH_take (i := 3) (oi := { dst := some 11, op := Op.load 24 (Operand.tmp 10), type := 24, pos := "ref.go:102", after := #[{ on := 2, ground := Ground.data }], guard := none }) (v := .slice A n c) rfl (by kernel_rfl) (by kernel_rfl) (by kernel_rfl) (fun _ _ _ h => h) (Or.inl ⟨by rfl, ?hy1_3⟩) (by assumption) ?rest1_3
  case hy1_3 => (intro w hSw; have hq := (Below.cell hSw (p := ⟨b, 0, none⟩) hlt).trans c0; go_simp; try with_reducible rfl)
  try simp only [Act.put, List.setIfInBounds_toArray, List.set_cons_zero, List.set_cons_succ]
  refine wpAnyH_take (i := 4) (oi := { dst := some 12, op := Op.move (Operand.tmp 0), type := 74, pos := "ref.go:102", after := #[], guard := none }) (v := .pointer (some ⟨b, 0, none⟩)) rfl (by kernel_rfl) (by kernel_rfl) (by kernel_rfl) (fun _ _ _ h => h) (Or.inl ⟨by rfl, ?hy1_4⟩) (by assumption) ?rest1_4
  case hy1_4 => (intro w hSw; (try dsimp only at hSw); go_simp; try with_reducible rfl)
  try simp only [Act.put, List.setIfInBounds_toArray, List.set_cons_zero, List.set_cons_succ]
  refine wpAnyH_take (i := 5) (oi := { dst := some 13, op := Op.nilCheck (Operand.tmp 12), type := 0, pos := "ref.go:102", after := #[{ on := 4, ground := Ground.data }], guard := none }) (v := .pointer (some ⟨b, 0, none⟩)) rfl (by kernel_rfl) (by kernel_rfl) (by kernel_rfl) (fun _ _ _ h => h) (Or.inl ⟨by rfl, ?hy1_5⟩) (by assumption) ?rest1_5
  case hy1_5 => (intro w hSw; (try dsimp only at hSw); go_simp; try with_reducible rfl)
  try simp only [Act.put, List.setIfInBounds_toArray, List.set_cons_zero, List.set_cons_succ]
  refine wpAnyH_take (i := 6) (oi := { dst := some 14, op := Op.fieldAddr 76 (Operand.tmp 13) 1, type := 0, pos := "ref.go:102", after := #[{ on := 5, ground := Ground.data }], guard := none }) (v := .pointer (some ⟨b, 1, none⟩)) rfl (by kernel_rfl) (by kernel_rfl) (by kernel_rfl) (fun _ _ _ h => h) (Or.inl ⟨by rfl, ?hy1_6⟩) (by assumption) ?rest1_6
  case hy1_6 => (intro w hSw; (try dsimp only at hSw); go_simp; try with_reducible rfl)
  try simp only [Act.put, List.setIfInBounds_toArray, List.set_cons_zero, List.set_cons_succ]
  refine wpAnyH_take (i := 7) (oi := { dst := some 15, op := Op.load 3 (Operand.tmp 14), type := 3, pos := "ref.go:102", after := #[{ on := 6, ground := Ground.data }], guard := none }) (v := .int .i64 (at_ : Nat)) rfl (by kernel_rfl) (by kernel_rfl) (by kernel_rfl) (fun _ _ _ h => h) (Or.inl ⟨by rfl, ?hy1_7⟩) (by assumption) ?rest1_7
  case hy1_7 => (intro w hSw; have hq := (Below.cell hSw (p := ⟨b, 1, none⟩) hlt).trans c1; go_simp; try with_reducible rfl)
  try simp only [Act.put, List.setIfInBounds_toArray, List.set_cons_zero, List.set_cons_succ]
  refine wpAnyH_take (i := 8) (oi := { dst := some 16, op := Op.slice 24 (Operand.tmp 11) (some (Operand.tmp 15)) none none, type := 24, pos := "ref.go:102", after := #[{ on := 3, ground := Ground.data }, { on := 7, ground := Ground.data }], guard := none }) (v := .slice A9 (n - at_) c9) rfl (by kernel_rfl) (by kernel_rfl) (by kernel_rfl) (fun _ _ _ h => h) (Or.inl ⟨by rfl, ?hy1_8⟩) (by assumption) ?rest1_8
  case hy1_8 => (intro w hSw; (try dsimp only at hSw); go_simp; try with_reducible rfl)
  try simp only [Act.put, List.setIfInBounds_toArray, List.set_cons_zero, List.set_cons_succ]
  refine wpAnyH_ready (rs := [9]) (by kernel_rfl) (by simp) ?_
  refine AllReadyH.cons (o := { dst := some 17, op := Op.call { callee := Callee.value (Operand.func 64), args := #[Operand.tmp 16], argTypes := #[24] }, type := 100, pos := "ref.go:102", after := #[{ on := 8, ground := Ground.data }], guard := none }) rfl (fun K hK => ?_) AllReadyH.nil
  go_simp
  refine (HLK.out _ HS.out).mono ?_
  rintro e w4 ⟨rfl, hb4⟩
  have s4 : Below w.heap.size w w4 := HS.out.trans (hb4.mono HS.out.size)
  refine hK.out _ _ s4 (fun _ => ?_)
  clear hK K
  try simp only [Act.put, List.setIfInBounds_toArray, List.set_cons_zero, List.set_cons_succ]
  refine wpAnyH_take (i := 10) (oi := { dst := some 7, op := Op.move (Operand.tmp 17), type := 100, pos := "ref.go:102", after := #[{ on := 9, ground := Ground.data }], guard := none }) (v := .tuple #[.int .i64 (v1 : Nat), .int .i64 (v2 : Nat), .int .i64 (v3 : Nat)]) rfl (by kernel_rfl) (by kernel_rfl) (by kernel_rfl) (fun _ _ _ h => h) (Or.inl ⟨by rfl, ?hy1_10⟩) (by assumption) ?rest1_10
  case hy1_10 => (intro w hSw; (try dsimp only at hSw); go_simp; try with_reducible rfl)
  try simp only [Act.put, List.setIfInBounds_toArray, List.set_cons_zero, List.set_cons_succ]
  refine wpAnyH_take (i := 11) (oi := { dst := some 18, op := Op.extract (Operand.tmp 7) 0, type := 3, pos := "ref.go:102", after := #[{ on := 10, ground := Ground.data }], guard := none }) (v := .int .i64 (v1 : Nat)) rfl (by kernel_rfl) (by kernel_rfl) (by kernel_rfl) (fun _ _ _ h => h) (Or.inl ⟨by rfl, ?hy1_11⟩) (by assumption) ?rest1_11
  case hy1_11 => (intro w hSw; (try dsimp only at hSw); go_simp; try with_reducible rfl)
  try simp only [Act.put, List.setIfInBounds_toArray, List.set_cons_zero, List.set_cons_succ]
  refine wpAnyH_take (i := 12) (oi := { dst := some 19, op := Op.extract (Operand.tmp 7) 1, type := 3, pos := "ref.go:102", after := #[{ on := 10, ground := Ground.data }, { on := 14, ground := Ground.gcOnly Departure.lateStores }], guard := none }) (v := .int .i64 (v2 : Nat)) rfl (by kernel_rfl) (by kernel_rfl) (by kernel_rfl) (fun _ _ _ h => h) (Or.inl ⟨by rfl, ?hy1_12⟩) (by assumption) ?rest1_12
  case hy1_12 => (intro w hSw; (try dsimp only at hSw); go_simp; try with_reducible rfl)
  try simp only [Act.put, List.setIfInBounds_toArray, List.set_cons_zero, List.set_cons_succ]
  refine wpAnyH_take (i := 13) (oi := { dst := some 20, op := Op.extract (Operand.tmp 7) 2, type := 30, pos := "ref.go:102", after := #[{ on := 10, ground := Ground.data }, { on := 15, ground := Ground.gcOnly Departure.lateStores }], guard := none }) (v := .int .i64 (v3 : Nat)) rfl (by kernel_rfl) (by kernel_rfl) (by kernel_rfl) (fun _ _ _ h => h) (Or.inl ⟨by rfl, ?hy1_13⟩) (by assumption) ?rest1_13
  case hy1_13 => (intro w hSw; (try dsimp only at hSw); go_simp; try with_reducible rfl)
  try simp only [Act.put, List.setIfInBounds_toArray, List.set_cons_zero, List.set_cons_succ]
  refine wpAnyH_take (i := 14) (oi := { dst := some 4, op := Op.assign (Operand.tmp 18), type := 3, pos := "ref.go:102", after := #[{ on := 11, ground := Ground.data }, { on := 9, ground := Ground.chain }, { on := 0, ground := Ground.phase }, { on := 1, ground := Ground.phase }, { on := 2, ground := Ground.phase }, { on := 3, ground := Ground.phase }, { on := 4, ground := Ground.phase }, { on := 5, ground := Ground.phase }, { on := 6, ground := Ground.phase }, { on := 7, ground := Ground.phase }, { on := 8, ground := Ground.phase }, { on := 9, ground := Ground.phase }, { on := 10, ground := Ground.phase }, { on := 11, ground := Ground.phase }, { on := 12, ground := Ground.textOnly Departure.lateStores }, { on := 13, ground := Ground.textOnly Departure.lateStores }], guard := none }) (v := .int .i64 (v1 : Nat)) rfl (by kernel_rfl) (by kernel_rfl) (by kernel_rfl) (fun _ _ _ h => h) (Or.inl ⟨by rfl, ?hy1_14⟩) (by assumption) ?rest1_14
  case hy1_14 => (intro w hSw; (try dsimp only at hSw); go_simp; try with_reducible rfl)
  try simp only [Act.put, List.setIfInBounds_toArray, List.set_cons_zero, List.set_cons_succ]
  refine wpAnyH_take (i := 15) (oi := { dst := some 5, op := Op.assign (Operand.tmp 19), type := 3, pos := "ref.go:102", after := #[{ on := 12, ground := Ground.data }, { on := 14, ground := Ground.chain }, { on := 0, ground := Ground.phase }, { on := 1, ground := Ground.phase }, { on := 2, ground := Ground.phase }, { on := 3, ground := Ground.phase }, { on := 4, ground := Ground.phase }, { on := 5, ground := Ground.phase }, { on := 6, ground := Ground.phase }, { on := 7, ground := Ground.phase }, { on := 8, ground := Ground.phase }, { on := 9, ground := Ground.phase }, { on := 10, ground := Ground.phase }, { on := 11, ground := Ground.phase }, { on := 12, ground := Ground.phase }, { on := 13, ground := Ground.textOnly Departure.lateStores }, { on := 14, ground := Ground.phase }], guard := none }) (v := .int .i64 (v2 : Nat)) rfl (by kernel_rfl) (by kernel_rfl) (by kernel_rfl) (fun _ _ _ h => h) (Or.inl ⟨by rfl, ?hy1_15⟩) (by assumption) ?rest1_15
  case hy1_15 => (intro w hSw; (try dsimp only at hSw); go_simp; try with_reducible rfl)
  try simp only [Act.put, List.setIfInBounds_toArray, List.set_cons_zero, List.set_cons_succ]
  refine wpAnyH_take (i := 16) (oi := { dst := some 6, op := Op.assign (Operand.tmp 20), type := 30, pos := "ref.go:102", after := #[{ on := 13, ground := Ground.data }, { on := 15, ground := Ground.chain }, { on := 0, ground := Ground.phase }, { on := 1, ground := Ground.phase }, { on := 2, ground := Ground.phase }, { on := 3, ground := Ground.phase }, { on := 4, ground := Ground.phase }, { on := 5, ground := Ground.phase }, { on := 6, ground := Ground.phase }, { on := 7, ground := Ground.phase }, { on := 8, ground := Ground.phase }, { on := 9, ground := Ground.phase }, { on := 10, ground := Ground.phase }, { on := 11, ground := Ground.phase }, { on := 12, ground := Ground.phase }, { on := 13, ground := Ground.phase }, { on := 14, ground := Ground.phase }, { on := 15, ground := Ground.phase }], guard := none }) (v := .int .i64 (v3 : Nat)) rfl (by kernel_rfl) (by kernel_rfl) (by kernel_rfl) (fun _ _ _ h => h) (Or.inl ⟨by rfl, ?hy1_16⟩) (by assumption) ?rest1_16
  case hy1_16 => (intro w hSw; (try dsimp only at hSw); go_simp; try with_reducible rfl)
  try simp only [Act.put, List.setIfInBounds_toArray, List.set_cons_zero, List.set_cons_succ]
  refine wpAnyH_done (by kernel_rfl) ?_ _
  have h4 := H.out.below s4
  have d1 := h4.c1
  have d2 := h4.fz
  go_wp2_with fail
  go_ret2
  refine ⟨rfl, h4.put (at_ + v2) (by omega) _ (by go_num), ?_⟩
  exact (oct.Keep1.of s4).trans (oct.Keep1.set w4 b 1 _)
theorem cut_lh_run {w : World} {B : Nat} {A : Option Addr} {n c : Nat} {L : List UInt8} (hr : Rd w B A n (bv L)) (k m : Nat) (hk : k ≤ m) (hm : m ≤ n) (hc : n ≤ c) : ∃ A' c', (∀ y : World, (Instr.sliceAt 24 (.slice A n c) (some (.int .i64 (k : Nat))) (some (.int .i64 (m : Nat))) none).run Tryd.prog y = .ok (.slice A' (m - k) c') y) ∧ m - k ≤ c' ∧ ∀ (y : World), Rd y B A n (bv L) → Rd y B A' (m - k) (bv ((L.drop k).take (m - k))) := by
  obtain ⟨A', e, hA⟩ := cut_value A k m c hk (by omega)
  refine ⟨A', c - k, fun y => ?_, by omega, fun y hy => ?_⟩
  · obtain ⟨ht, hs⟩ := sizeOf_one (P := Tryd.prog) (w := y) oct.u8ty
    have hrun := run_slice_lh (P := Tryd.prog) (w := y) 24 A n c ht .i64 .i64 (k : Nat) (m : Nat) (by omega) (by omega) (by omega)
    rw [hs, ← run_sliceAt_slice _ 24 _ _ _ _ ht] at hrun
    simp only [Result.andThen_ok] at hrun
    rw [Int.toNat_natCast, Int.toNat_natCast, e] at hrun
    exact hrun
  · have hr' := hy.cut (l := k) (m := m - k) (by omega) (A' := A') hA
    rw [← bv_drop, ← bv_take] at hr'
    exact hr'
def DBytePost (b : Nat) (A : Option Addr) (n c : Nat) (L : List UInt8) (at_ : Nat) (w : World) (e : Ending) (w' : World) : Prop := e = .returned (.tuple #[.int .u8 ((oct.byteR (L.drop at_)).1.toNat : Int), .int .i64 ((oct.byteR (L.drop at_)).2.2 : Nat)]) ∧ DR w' b A n c L (at_ + (oct.byteR (L.drop at_)).2.1) ∧ oct.Keep1 w w' b
set_option maxHeartbeats 4000000 in
theorem dbyte_any (b : Nat) (A : Option Addr) (n c : Nat) (L : List UInt8) (at_ : Nat) (w : World) (h : DR w b A n c L at_) :
    Calls Tryd.prog 51 #[.pointer (some ⟨b, 0, none⟩)] w (DBytePost b A n c L at_ w) := by
  have hl : L.length = n := by rw [← h.rd.len, bv_len]
  have c0 := h.c0
  have c1 := h.c1
  have hlt := h.lt
  have hle := h.le
  have hn := h.hn
  unfold DBytePost
  have hS0 : Below w.heap.size w w.drew := lz.below_drew (Below.refl _ _)
  by_cases he : at_ = n
  · have hd : L.drop at_ = [] := List.drop_of_length_le (by omega)
    rw [hd]
    simp only [oct.byteR]
    have hei : ((at_ : Nat) : Int) = (n : Int) := by omega
    have H := Lib.hid h
    clear h hd hl
    go_enter Tryd.func51, Tryd.ntmps51
    go_upto_region 1 with fail
    obtain ⟨wz, hwz⟩ : ∃ z, w.drew = z := ⟨_, rfl⟩
    have HS := Lib.hid hS0
    rw [hwz] at HS
    refine wp_region_held_drew (S := fun y => Below w.heap.size w y) (by kernel_rfl) hS0 (fun hHeld => ?_)
    rw [hwz] at hHeld ⊢
    clear hwz hS0
    refine wpAnyH_take (i := 0) (oi := { dst := some 4, op := Op.move (Operand.tmp 0), type := 74, pos := "ref.go:93", after := #[], guard := none }) (v := .pointer (some ⟨b, 0, none⟩)) rfl (by kernel_rfl) (by kernel_rfl) (by kernel_rfl) (fun _ _ _ h => h) (Or.inl ⟨by rfl, ?hy2_0⟩) (by assumption) ?rest2_0
    case hy2_0 => (intro w hSw; (try dsimp only at hSw); go_simp; try with_reducible rfl)
    try simp only [Act.put, List.setIfInBounds_toArray, List.set_cons_zero, List.set_cons_succ]
    refine wpAnyH_take (i := 1) (oi := { dst := some 5, op := Op.nilCheck (Operand.tmp 4), type := 0, pos := "ref.go:93", after := #[{ on := 0, ground := Ground.data }], guard := none }) (v := .pointer (some ⟨b, 0, none⟩)) rfl (by kernel_rfl) (by kernel_rfl) (by kernel_rfl) (fun _ _ _ h => h) (Or.inl ⟨by rfl, ?hy2_1⟩) (by assumption) ?rest2_1
    case hy2_1 => (intro w hSw; (try dsimp only at hSw); go_simp; try with_reducible rfl)
    try simp only [Act.put, List.setIfInBounds_toArray, List.set_cons_zero, List.set_cons_succ]
    refine wpAnyH_take (i := 2) (oi := { dst := some 6, op := Op.fieldAddr 76 (Operand.tmp 5) 1, type := 0, pos := "ref.go:93", after := #[{ on := 1, ground := Ground.data }], guard := none }) (v := .pointer (some ⟨b, 1, none⟩)) rfl (by kernel_rfl) (by kernel_rfl) (by kernel_rfl) (fun _ _ _ h => h) (Or.inl ⟨by rfl, ?hy2_2⟩) (by assumption) ?rest2_2
    case hy2_2 => (intro w hSw; (try dsimp only at hSw); go_simp; try with_reducible rfl)
    try simp only [Act.put, List.setIfInBounds_toArray, List.set_cons_zero, List.set_cons_succ]
    refine wpAnyH_take (i := 3) (oi := { dst := some 7, op := Op.load 3 (Operand.tmp 6), type := 3, pos := "ref.go:93", after := #[{ on := 2, ground := Ground.data }], guard := none }) (v := .int .i64 (at_ : Nat)) rfl (by kernel_rfl) (by kernel_rfl) (by kernel_rfl) (fun _ _ _ h => h) (Or.inl ⟨by rfl, ?hy2_3⟩) (by assumption) ?rest2_3
    case hy2_3 => (intro w hSw; have hq := (Below.cell hSw (p := ⟨b, 1, none⟩) hlt).trans c1; go_simp; try with_reducible rfl)
    try simp only [Act.put, List.setIfInBounds_toArray, List.set_cons_zero, List.set_cons_succ]
    refine wpAnyH_take (i := 4) (oi := { dst := some 8, op := Op.move (Operand.tmp 0), type := 74, pos := "ref.go:93", after := #[], guard := none }) (v := .pointer (some ⟨b, 0, none⟩)) rfl (by kernel_rfl) (by kernel_rfl) (by kernel_rfl) (fun _ _ _ h => h) (Or.inl ⟨by rfl, ?hy2_4⟩) (by assumption) ?rest2_4
    case hy2_4 => (intro w hSw; (try dsimp only at hSw); go_simp; try with_reducible rfl)
    try simp only [Act.put, List.setIfInBounds_toArray, List.set_cons_zero, List.set_cons_succ]
    refine wpAnyH_take (i := 5) (oi := { dst := some 9, op := Op.nilCheck (Operand.tmp 8), type := 0, pos := "ref.go:93", after := #[{ on := 4, ground := Ground.data }], guard := none }) (v := .pointer (some ⟨b, 0, none⟩)) rfl (by kernel_rfl) (by kernel_rfl) (by kernel_rfl) (fun _ _ _ h => h) (Or.inl ⟨by rfl, ?hy2_5⟩) (by assumption) ?rest2_5
    case hy2_5 => (intro w hSw; (try dsimp only at hSw); go_simp; try with_reducible rfl)
    try simp only [Act.put, List.setIfInBounds_toArray, List.set_cons_zero, List.set_cons_succ]
    refine wpAnyH_take (i := 6) (oi := { dst := some 10, op := Op.fieldAddr 76 (Operand.tmp 9) 0, type := 0, pos := "ref.go:93", after := #[{ on := 5, ground := Ground.data }], guard := none }) (v := .pointer (some ⟨b, 0, none⟩)) rfl (by kernel_rfl) (by kernel_rfl) (by kernel_rfl) (fun _ _ _ h => h) (Or.inl ⟨by rfl, ?hy2_6⟩) (by assumption) ?rest2_6
    case hy2_6 => (intro w hSw; (try dsimp only at hSw); go_simp; try with_reducible rfl)
    try simp only [Act.put, List.setIfInBounds_toArray, List.set_cons_zero, List.set_cons_succ]
    refine wpAnyH_take (i := 7) (oi := { dst := some 11, op := Op.load 24 (Operand.tmp 10), type := 24, pos := "ref.go:93", after := #[{ on := 6, ground := Ground.data }], guard := none }) (v := .slice A n c) rfl (by kernel_rfl) (by kernel_rfl) (by kernel_rfl) (fun _ _ _ h => h) (Or.inl ⟨by rfl, ?hy2_7⟩) (by assumption) ?rest2_7
    case hy2_7 => (intro w hSw; have hq := (Below.cell hSw (p := ⟨b, 0, none⟩) hlt).trans c0; go_simp; try with_reducible rfl)
    try simp only [Act.put, List.setIfInBounds_toArray, List.set_cons_zero, List.set_cons_succ]
    refine wpAnyH_take (i := 8) (oi := { dst := some 12, op := Op.call { callee := Callee.builtin Builtin.len, args := #[Operand.tmp 11], argTypes := #[24] }, type := 3, pos := "ref.go:93", after := #[{ on := 7, ground := Ground.data }], guard := none }) (v := .int .i64 (n : Nat)) rfl (by kernel_rfl) (by kernel_rfl) (by kernel_rfl) (fun _ _ _ h => h) (Or.inl ⟨by rfl, ?hy2_8⟩) (by assumption) ?rest2_8
    case hy2_8 => (intro w hSw; (try dsimp only at hSw); go_simp; try with_reducible rfl)
    try simp only [Act.put, List.setIfInBounds_toArray, List.set_cons_zero, List.set_cons_succ]
    refine wpAnyH_take (i := 9) (oi := { dst := some 13, op := Op.binOp BinOp.eql 3 (Operand.tmp 7) (Operand.tmp 12) 3, type := 4, pos := "ref.go:93", after := #[{ on := 3, ground := Ground.data }, { on := 8, ground := Ground.data }], guard := none }) (v := .bool true) rfl (by kernel_rfl) (by kernel_rfl) (by kernel_rfl) (fun _ _ _ h => h) (Or.inl ⟨by rfl, ?hy2_9⟩) (by assumption) ?rest2_9
    case hy2_9 => (intro w hSw; (try dsimp only at hSw); go_simp; try with_reducible rfl)
    try simp only [Act.put, List.setIfInBounds_toArray, List.set_cons_zero, List.set_cons_succ]
    refine wpAnyH_done (by kernel_rfl) ?_ _
    go_wp2_with fail
    go_ret2
    exact ⟨rfl, H.out.below HS.out, oct.Keep1.of HS.out⟩
  · have hlt2 : at_ < n := by omega
    have hne : (((at_ : Nat) : Int) == (n : Int)) = false := beq_eq_false_iff_ne.2 (by omega)
    obtain ⟨gb, off, hA, hgb, hcell⟩ := h.rd.at_ (by omega : at_ < n)
    have hd : L.drop at_ = L[at_]'(by omega) :: L.drop (at_ + 1) := List.drop_eq_getElem_cons (by omega)
    obtain ⟨z, hz⟩ : ∃ z, L[at_]'(by omega) = z := ⟨_, rfl⟩
    have hce : w.cell? ⟨gb, off + at_, none⟩ = some (.int .u8 (z.toNat : Int)) := hcell.trans (by rw [← hz]; unfold bv; rw [List.getElem?_map, List.getElem?_eq_getElem (by omega : at_ < L.length)]; rfl)
    rw [hz] at hd
    rw [hd]
    simp only [oct.byteR]
    subst hA
    have H := Lib.hid h
    clear h hd hl hcell hz
    go_enter Tryd.func51, Tryd.ntmps51
    go_upto_region 1 with fail
    obtain ⟨wz, hwz⟩ : ∃ z, w.drew = z := ⟨_, rfl⟩
    have HS := Lib.hid hS0
    rw [hwz] at HS
    refine wp_region_held_drew (S := fun y => Below w.heap.size w y) (by kernel_rfl) hS0 (fun hHeld => ?_)
    rw [hwz] at hHeld ⊢
    clear hwz hS0
    refine wpAnyH_take (i := 0) (oi := { dst := some 4, op := Op.move (Operand.tmp 0), type := 74, pos := "ref.go:93", after := #[], guard := none }) (v := .pointer (some ⟨b, 0, none⟩)) rfl (by kernel_rfl) (by kernel_rfl) (by kernel_rfl) (fun _ _ _ h => h) (Or.inl ⟨by rfl, ?hy3_0⟩) (by assumption) ?rest3_0
    case hy3_0 => (intro w hSw; (try dsimp only at hSw); go_simp; try with_reducible rfl)
    try simp only [Act.put, List.setIfInBounds_toArray, List.set_cons_zero, List.set_cons_succ]
    refine wpAnyH_take (i := 1) (oi := { dst := some 5, op := Op.nilCheck (Operand.tmp 4), type := 0, pos := "ref.go:93", after := #[{ on := 0, ground := Ground.data }], guard := none }) (v := .pointer (some ⟨b, 0, none⟩)) rfl (by kernel_rfl) (by kernel_rfl) (by kernel_rfl) (fun _ _ _ h => h) (Or.inl ⟨by rfl, ?hy3_1⟩) (by assumption) ?rest3_1
    case hy3_1 => (intro w hSw; (try dsimp only at hSw); go_simp; try with_reducible rfl)
    try simp only [Act.put, List.setIfInBounds_toArray, List.set_cons_zero, List.set_cons_succ]
    refine wpAnyH_take (i := 2) (oi := { dst := some 6, op := Op.fieldAddr 76 (Operand.tmp 5) 1, type := 0, pos := "ref.go:93", after := #[{ on := 1, ground := Ground.data }], guard := none }) (v := .pointer (some ⟨b, 1, none⟩)) rfl (by kernel_rfl) (by kernel_rfl) (by kernel_rfl) (fun _ _ _ h => h) (Or.inl ⟨by rfl, ?hy3_2⟩) (by assumption) ?rest3_2
    case hy3_2 => (intro w hSw; (try dsimp only at hSw); go_simp; try with_reducible rfl)
    try simp only [Act.put, List.setIfInBounds_toArray, List.set_cons_zero, List.set_cons_succ]
    refine wpAnyH_take (i := 3) (oi := { dst := some 7, op := Op.load 3 (Operand.tmp 6), type := 3, pos := "ref.go:93", after := #[{ on := 2, ground := Ground.data }], guard := none }) (v := .int .i64 (at_ : Nat)) rfl (by kernel_rfl) (by kernel_rfl) (by kernel_rfl) (fun _ _ _ h => h) (Or.inl ⟨by rfl, ?hy3_3⟩) (by assumption) ?rest3_3
    case hy3_3 => (intro w hSw; have hq := (Below.cell hSw (p := ⟨b, 1, none⟩) hlt).trans c1; go_simp; try with_reducible rfl)
    try simp only [Act.put, List.setIfInBounds_toArray, List.set_cons_zero, List.set_cons_succ]
    refine wpAnyH_take (i := 4) (oi := { dst := some 8, op := Op.move (Operand.tmp 0), type := 74, pos := "ref.go:93", after := #[], guard := none }) (v := .pointer (some ⟨b, 0, none⟩)) rfl (by kernel_rfl) (by kernel_rfl) (by kernel_rfl) (fun _ _ _ h => h) (Or.inl ⟨by rfl, ?hy3_4⟩) (by assumption) ?rest3_4
    case hy3_4 => (intro w hSw; (try dsimp only at hSw); go_simp; try with_reducible rfl)
    try simp only [Act.put, List.setIfInBounds_toArray, List.set_cons_zero, List.set_cons_succ]
    refine wpAnyH_take (i := 5) (oi := { dst := some 9, op := Op.nilCheck (Operand.tmp 8), type := 0, pos := "ref.go:93", after := #[{ on := 4, ground := Ground.data }], guard := none }) (v := .pointer (some ⟨b, 0, none⟩)) rfl (by kernel_rfl) (by kernel_rfl) (by kernel_rfl) (fun _ _ _ h => h) (Or.inl ⟨by rfl, ?hy3_5⟩) (by assumption) ?rest3_5
    case hy3_5 => (intro w hSw; (try dsimp only at hSw); go_simp; try with_reducible rfl)
    try simp only [Act.put, List.setIfInBounds_toArray, List.set_cons_zero, List.set_cons_succ]
    refine wpAnyH_take (i := 6) (oi := { dst := some 10, op := Op.fieldAddr 76 (Operand.tmp 9) 0, type := 0, pos := "ref.go:93", after := #[{ on := 5, ground := Ground.data }], guard := none }) (v := .pointer (some ⟨b, 0, none⟩)) rfl (by kernel_rfl) (by kernel_rfl) (by kernel_rfl) (fun _ _ _ h => h) (Or.inl ⟨by rfl, ?hy3_6⟩) (by assumption) ?rest3_6
    case hy3_6 => (intro w hSw; (try dsimp only at hSw); go_simp; try with_reducible rfl)
    try simp only [Act.put, List.setIfInBounds_toArray, List.set_cons_zero, List.set_cons_succ]
    refine wpAnyH_take (i := 7) (oi := { dst := some 11, op := Op.load 24 (Operand.tmp 10), type := 24, pos := "ref.go:93", after := #[{ on := 6, ground := Ground.data }], guard := none }) (v := .slice (some ⟨gb, off, none⟩) n c) rfl (by kernel_rfl) (by kernel_rfl) (by kernel_rfl) (fun _ _ _ h => h) (Or.inl ⟨by rfl, ?hy3_7⟩) (by assumption) ?rest3_7
    case hy3_7 => (intro w hSw; have hq := (Below.cell hSw (p := ⟨b, 0, none⟩) hlt).trans c0; go_simp; try with_reducible rfl)
    try simp only [Act.put, List.setIfInBounds_toArray, List.set_cons_zero, List.set_cons_succ]
    refine wpAnyH_take (i := 8) (oi := { dst := some 12, op := Op.call { callee := Callee.builtin Builtin.len, args := #[Operand.tmp 11], argTypes := #[24] }, type := 3, pos := "ref.go:93", after := #[{ on := 7, ground := Ground.data }], guard := none }) (v := .int .i64 (n : Nat)) rfl (by kernel_rfl) (by kernel_rfl) (by kernel_rfl) (fun _ _ _ h => h) (Or.inl ⟨by rfl, ?hy3_8⟩) (by assumption) ?rest3_8
    case hy3_8 => (intro w hSw; (try dsimp only at hSw); go_simp; try with_reducible rfl)
    try simp only [Act.put, List.setIfInBounds_toArray, List.set_cons_zero, List.set_cons_succ]
    refine wpAnyH_take (i := 9) (oi := { dst := some 13, op := Op.binOp BinOp.eql 3 (Operand.tmp 7) (Operand.tmp 12) 3, type := 4, pos := "ref.go:93", after := #[{ on := 3, ground := Ground.data }, { on := 8, ground := Ground.data }], guard := none }) (v := .bool false) rfl (by kernel_rfl) (by kernel_rfl) (by kernel_rfl) (fun _ _ _ h => h) (Or.inl ⟨by rfl, ?hy3_9⟩) (by assumption) ?rest3_9
    case hy3_9 => (intro w hSw; (try dsimp only at hSw); go_simp; try with_reducible rfl)
    try simp only [Act.put, List.setIfInBounds_toArray, List.set_cons_zero, List.set_cons_succ]
    refine wpAnyH_done (by kernel_rfl) ?_ _
    have h4 := H.out.below HS.out
    have d1 := h4.c1
    have d2 := h4.fz
    have e1 := (HS.out.cell (p := ⟨gb, off + at_, none⟩) (Nat.lt_trans hgb hlt)).trans hce
    go_upto_region 4 with fail
    have h5 := h4.put (at_ + 1) (by omega) (((at_ : Nat) : Int) + 1) (by omega)
    have k5 := oct.Keep1.set wz b 1 (.int .i64 (((at_ : Nat) : Int) + 1))
    have e5 := (k5.cell (a := ⟨gb, off + at_, none⟩) (Nat.lt_of_lt_of_le (Nat.lt_trans hgb hlt) HS.out.size) (Nat.ne_of_lt hgb)).trans e1
    try rw [show IntKind.i64.wrap (((at_ : Nat) : Int) + 1) = ((at_ : Nat) : Int) + 1 by go_num]
    obtain ⟨w5, hw5⟩ : ∃ z, wz.setCell ⟨b, 1, none⟩ (.int .i64 (((at_ : Nat) : Int) + 1)) = z := ⟨_, rfl⟩
    rw [hw5] at h5 k5 e5 ⊢
    have c05 := h5.c0
    have c15 : w5.cell? ⟨b, 1, none⟩ = some (.int .i64 (((at_ : Nat) : Int) + 1)) := h5.c1.trans (by simp)
    have hlt5 := h5.lt
    have hgb5 : gb < w5.heap.size := Nat.lt_trans hgb hlt5
    have hwa : IntKind.i64.wrap ((at_ : Nat) : Int) = ((at_ : Nat) : Int) := by rw [IntKind.wrap_i64]; omega
    have hT0 : Below w5.heap.size w5 w5.drew := lz.below_drew (Below.refl _ _)
    obtain ⟨wy, hwy⟩ : ∃ z, w5.drew = z := ⟨_, rfl⟩
    have HY := Lib.hid hT0
    rw [hwy] at HY
    have H5 := Lib.hid h5
    have K5 := Lib.hid ((oct.Keep1.of HS.out (b := b)).trans k5)
    clear h5 k5 hw5 hce e1 d1 d2 h4
    refine wp_region_held_drew (S := fun y => Below w5.heap.size w5 y) (by kernel_rfl) hT0 (fun hHeld => ?_)
    rw [hwy] at hHeld ⊢
    clear hwy hT0
    refine wpAnyH_take (i := 0) (oi := { dst := some 21, op := Op.move (Operand.tmp 0), type := 74, pos := "ref.go:97", after := #[], guard := none }) (v := .pointer (some ⟨b, 0, none⟩)) rfl (by kernel_rfl) (by kernel_rfl) (by kernel_rfl) (fun _ _ _ h => h) (Or.inl ⟨by rfl, ?hy4_0⟩) (by assumption) ?rest4_0
    case hy4_0 => (intro w hSw; (try dsimp only at hSw); go_simp; try with_reducible rfl)
    try simp only [Act.put, List.setIfInBounds_toArray, List.set_cons_zero, List.set_cons_succ]
    refine wpAnyH_take (i := 1) (oi := { dst := some 22, op := Op.nilCheck (Operand.tmp 21), type := 0, pos := "ref.go:97", after := #[{ on := 0, ground := Ground.data }], guard := none }) (v := .pointer (some ⟨b, 0, none⟩)) rfl (by kernel_rfl) (by kernel_rfl) (by kernel_rfl) (fun _ _ _ h => h) (Or.inl ⟨by rfl, ?hy4_1⟩) (by assumption) ?rest4_1
    case hy4_1 => (intro w hSw; (try dsimp only at hSw); go_simp; try with_reducible rfl)
    try simp only [Act.put, List.setIfInBounds_toArray, List.set_cons_zero, List.set_cons_succ]
    refine wpAnyH_take (i := 2) (oi := { dst := some 23, op := Op.fieldAddr 76 (Operand.tmp 22) 0, type := 0, pos := "ref.go:97", after := #[{ on := 1, ground := Ground.data }], guard := none }) (v := .pointer (some ⟨b, 0, none⟩)) rfl (by kernel_rfl) (by kernel_rfl) (by kernel_rfl) (fun _ _ _ h => h) (Or.inl ⟨by rfl, ?hy4_2⟩) (by assumption) ?rest4_2
    case hy4_2 => (intro w hSw; (try dsimp only at hSw); go_simp; try with_reducible rfl)
    try simp only [Act.put, List.setIfInBounds_toArray, List.set_cons_zero, List.set_cons_succ]
    refine wpAnyH_take (i := 3) (oi := { dst := some 24, op := Op.load 24 (Operand.tmp 23), type := 24, pos := "ref.go:97", after := #[{ on := 2, ground := Ground.data }], guard := none }) (v := .slice (some ⟨gb, off, none⟩) n c) rfl (by kernel_rfl) (by kernel_rfl) (by kernel_rfl) (fun _ _ _ h => h) (Or.inl ⟨by rfl, ?hy4_3⟩) (by assumption) ?rest4_3
    case hy4_3 => (intro w hSw; have hq := (Below.cell hSw (p := ⟨b, 0, none⟩) hlt5).trans c05; go_simp; try with_reducible rfl)
    try simp only [Act.put, List.setIfInBounds_toArray, List.set_cons_zero, List.set_cons_succ]
    refine wpAnyH_take (i := 4) (oi := { dst := some 25, op := Op.move (Operand.tmp 0), type := 74, pos := "ref.go:97", after := #[], guard := none }) (v := .pointer (some ⟨b, 0, none⟩)) rfl (by kernel_rfl) (by kernel_rfl) (by kernel_rfl) (fun _ _ _ h => h) (Or.inl ⟨by rfl, ?hy4_4⟩) (by assumption) ?rest4_4
    case hy4_4 => (intro w hSw; (try dsimp only at hSw); go_simp; try with_reducible rfl)
    try simp only [Act.put, List.setIfInBounds_toArray, List.set_cons_zero, List.set_cons_succ]
    refine wpAnyH_take (i := 5) (oi := { dst := some 26, op := Op.nilCheck (Operand.tmp 25), type := 0, pos := "ref.go:97", after := #[{ on := 4, ground := Ground.data }], guard := none }) (v := .pointer (some ⟨b, 0, none⟩)) rfl (by kernel_rfl) (by kernel_rfl) (by kernel_rfl) (fun _ _ _ h => h) (Or.inl ⟨by rfl, ?hy4_5⟩) (by assumption) ?rest4_5
    case hy4_5 => (intro w hSw; (try dsimp only at hSw); go_simp; try with_reducible rfl)
    try simp only [Act.put, List.setIfInBounds_toArray, List.set_cons_zero, List.set_cons_succ]
    refine wpAnyH_take (i := 6) (oi := { dst := some 27, op := Op.fieldAddr 76 (Operand.tmp 26) 1, type := 0, pos := "ref.go:97", after := #[{ on := 5, ground := Ground.data }], guard := none }) (v := .pointer (some ⟨b, 1, none⟩)) rfl (by kernel_rfl) (by kernel_rfl) (by kernel_rfl) (fun _ _ _ h => h) (Or.inl ⟨by rfl, ?hy4_6⟩) (by assumption) ?rest4_6
    case hy4_6 => (intro w hSw; (try dsimp only at hSw); go_simp; try with_reducible rfl)
    try simp only [Act.put, List.setIfInBounds_toArray, List.set_cons_zero, List.set_cons_succ]
    refine wpAnyH_take (i := 7) (oi := { dst := some 28, op := Op.load 3 (Operand.tmp 27), type := 3, pos := "ref.go:97", after := #[{ on := 6, ground := Ground.data }], guard := none }) (v := .int .i64 (((at_ : Nat) : Int) + 1)) rfl (by kernel_rfl) (by kernel_rfl) (by kernel_rfl) (fun _ _ _ h => h) (Or.inl ⟨by rfl, ?hy4_7⟩) (by assumption) ?rest4_7
    case hy4_7 => (intro w hSw; have hq := (Below.cell hSw (p := ⟨b, 1, none⟩) hlt5).trans c15; go_simp; try with_reducible rfl)
    try simp only [Act.put, List.setIfInBounds_toArray, List.set_cons_zero, List.set_cons_succ]
    refine wpAnyH_take (i := 8) (oi := { dst := some 29, op := Op.binOp BinOp.sub 3 (Operand.tmp 28) (Operand.const (Value.int IntKind.i64 1)) 3, type := 3, pos := "ref.go:97", after := #[{ on := 7, ground := Ground.data }], guard := none }) (v := .int .i64 (at_ : Nat)) rfl (by kernel_rfl) (by kernel_rfl) (by kernel_rfl) (fun _ _ _ h => h) (Or.inl ⟨by rfl, ?hy4_8⟩) (by assumption) ?rest4_8
    case hy4_8 => (intro w hSw; go_simp; first | done | exact hwa)
    try simp only [Act.put, List.setIfInBounds_toArray, List.set_cons_zero, List.set_cons_succ]
    refine wpAnyH_take (i := 9) (oi := { dst := some 30, op := Op.indexAddr 24 (Operand.tmp 24) (Operand.tmp 29), type := 0, pos := "ref.go:97", after := #[{ on := 3, ground := Ground.data }, { on := 8, ground := Ground.data }], guard := none }) (v := .pointer (some ⟨gb, off + at_, none⟩)) rfl (by kernel_rfl) (by kernel_rfl) (by kernel_rfl) (fun _ _ _ h => h) (Or.inl ⟨by rfl, ?hy4_9⟩) (by assumption) ?rest4_9
    case hy4_9 => (intro w hSw; (try dsimp only at hSw); go_simp; try with_reducible rfl)
    try simp only [Act.put, List.setIfInBounds_toArray, List.set_cons_zero, List.set_cons_succ]
    refine wpAnyH_take (i := 10) (oi := { dst := some 31, op := Op.load 5 (Operand.tmp 30), type := 5, pos := "ref.go:97", after := #[{ on := 9, ground := Ground.data }], guard := none }) (v := .int .u8 (z.toNat : Int)) rfl (by kernel_rfl) (by kernel_rfl) (by kernel_rfl) (fun _ _ _ h => h) (Or.inl ⟨by rfl, ?hy4_10⟩) (by assumption) ?rest4_10
    case hy4_10 => (intro w hSw; have hq := (Below.cell hSw (p := ⟨gb, off + at_, none⟩) hgb5).trans e5; go_simp; try with_reducible rfl)
    try simp only [Act.put, List.setIfInBounds_toArray, List.set_cons_zero, List.set_cons_succ]
    refine wpAnyH_take (i := 11) (oi := { dst := some 2, op := Op.assign (Operand.tmp 31), type := 5, pos := "ref.go:97", after := #[{ on := 10, ground := Ground.data }, { on := 0, ground := Ground.phase }, { on := 1, ground := Ground.phase }, { on := 2, ground := Ground.phase }, { on := 3, ground := Ground.phase }, { on := 4, ground := Ground.phase }, { on := 5, ground := Ground.phase }, { on := 6, ground := Ground.phase }, { on := 7, ground := Ground.phase }, { on := 8, ground := Ground.phase }, { on := 9, ground := Ground.phase }, { on := 10, ground := Ground.phase }], guard := none }) (v := .int .u8 (z.toNat : Int)) rfl (by kernel_rfl) (by kernel_rfl) (by kernel_rfl) (fun _ _ _ h => h) (Or.inl ⟨by rfl, ?hy4_11⟩) (by assumption) ?rest4_11
    case hy4_11 => (intro w hSw; (try dsimp only at hSw); go_simp; try with_reducible rfl)
    try simp only [Act.put, List.setIfInBounds_toArray, List.set_cons_zero, List.set_cons_succ]
    refine wpAnyH_take (i := 12) (oi := { dst := some 3, op := Op.assign (Operand.const (Value.int IntKind.i64 0)), type := 30, pos := "ref.go:97", after := #[{ on := 11, ground := Ground.chain }, { on := 0, ground := Ground.phase }, { on := 1, ground := Ground.phase }, { on := 2, ground := Ground.phase }, { on := 3, ground := Ground.phase }, { on := 4, ground := Ground.phase }, { on := 5, ground := Ground.phase }, { on := 6, ground := Ground.phase }, { on := 7, ground := Ground.phase }, { on := 8, ground := Ground.phase }, { on := 9, ground := Ground.phase }, { on := 10, ground := Ground.phase }, { on := 11, ground := Ground.phase }], guard := none }) (v := .int .i64 0) rfl (by kernel_rfl) (by kernel_rfl) (by kernel_rfl) (fun _ _ _ h => h) (Or.inl ⟨by rfl, ?hy4_12⟩) (by assumption) ?rest4_12
    case hy4_12 => (intro w hSw; (try dsimp only at hSw); go_simp; try with_reducible rfl)
    try simp only [Act.put, List.setIfInBounds_toArray, List.set_cons_zero, List.set_cons_succ]
    refine wpAnyH_done (by kernel_rfl) ?_ _
    go_wp2_with fail
    go_ret2
    exact ⟨rfl, H5.out.below HY.out, K5.out.trans (oct.Keep1.of HY.out)⟩
def DTextPost (b : Nat) (A : Option Addr) (n c : Nat) (L : List UInt8) (at_ : Nat) (w : World) (e : Ending) (w' : World) : Prop := ∃ A' N' c', e = .returned (.tuple #[.slice A' N' c', .int .i64 ((oct.textR (L.drop at_) 256).2.2 : Nat)]) ∧ Ow w' w.heap.size 5 A' N' c' (bv (oct.textR (L.drop at_) 256).1) ∧ DR w' b A n c L (at_ + (oct.textR (L.drop at_) 256).2.1) ∧ oct.Keep1 w w' b
set_option maxHeartbeats 8000000 in
theorem dtext_any (b : Nat) (A : Option Addr) (n c : Nat) (L : List UInt8) (at_ : Nat) (w : World) (h : DR w b A n c L at_) :
    Calls Tryd.prog 52 #[.pointer (some ⟨b, 0, none⟩), .int .i64 256] w (DTextPost b A n c L at_ w) := by
  have hl : L.length = n := by rw [← h.rd.len, bv_len]
  have c0 := h.c0
  have c1 := h.c1
  have hlt := h.lt
  have hle := h.le
  have hn := h.hn
  obtain ⟨A9, c9, hsl, hc9, hrd9⟩ := cut_l_run h.rd at_ h.le h.hc
  have hlks := oct.lk_size (L.drop at_)
  have hlk := fun (y : World) (hy : Below w.heap.size w y) => oct.refLook_any A9 (n - at_) c9 b (L.drop at_) y (hrd9 y (h.rd.below hy (Nat.le_of_lt hlt))) (Nat.le_trans (Nat.le_of_lt hlt) hy.size) hc9 (by omega)
  unfold oct.LookPost at hlk
  have hdl : (L.drop at_).length = n - at_ := by rw [List.length_drop, hl]
  unfold DTextPost
  obtain ⟨⟨x, u, er⟩, ht⟩ : ∃ z, oct.textR (L.drop at_) 256 = z := ⟨_, rfl⟩
  simp only [ht]
  unfold oct.textR at ht
  rw [hdl] at ht
  obtain ⟨⟨v1, v2, v3⟩, hv⟩ : ∃ z, lk (L.drop at_) = z := ⟨_, rfl⟩
  simp only [hv] at hlk hlks ht
  have HTX := Lib.hid ht
  clear ht
  rw [hdl] at hlks
  have hv2 : v2 ≤ n - at_ := hlks.1
  have hv1 : v1 ≤ 9223372036854775807 := hlks.2.1
  have HLK := Lib.hid hlk
  have H := Lib.hid h
  clear hlk h hrd9 hlks hl hdl hv
  have hS0 : Below w.heap.size w w.drew := lz.below_drew (Below.refl _ _)
  go_enter Tryd.func52, Tryd.ntmps52
  go_upto_region 1 with fail
  obtain ⟨wz, hwz⟩ : ∃ z, w.drew = z := ⟨_, rfl⟩
  have HS := Lib.hid hS0
  rw [hwz] at HS
  refine wp_region_held_drew (S := fun y => Below w.heap.size w y) (by kernel_rfl) hS0 (fun hHeld => ?_)
  rw [hwz] at hHeld ⊢
  clear hwz hS0
  refine wpAnyH_take (i := 0) (oi := { dst := some 10, op := Op.move (Operand.tmp 0), type := 74, pos := "ref.go:120", after := #[], guard := none }) (v := .pointer (some ⟨b, 0, none⟩)) rfl (by kernel_rfl) (by kernel_rfl) (by kernel_rfl) (fun _ _ _ h => h) (Or.inl ⟨by rfl, ?hy5_0⟩) (by assumption) ?rest5_0
  case hy5_0 => (intro w hSw; (try dsimp only at hSw); go_simp; try with_reducible rfl)
  try simp only [Act.put, List.setIfInBounds_toArray, List.set_cons_zero, List.set_cons_succ]
  refine wpAnyH_take (i := 1) (oi := { dst := some 11, op := Op.nilCheck (Operand.tmp 10), type := 0, pos := "ref.go:120", after := #[{ on := 0, ground := Ground.data }], guard := none }) (v := .pointer (some ⟨b, 0, none⟩)) rfl (by kernel_rfl) (by kernel_rfl) (by kernel_rfl) (fun _ _ _ h => h) (Or.inl ⟨by rfl, ?hy5_1⟩) (by assumption) ?rest5_1
  case hy5_1 => (intro w hSw; (try dsimp only at hSw); go_simp; try with_reducible rfl)
  try simp only [Act.put, List.setIfInBounds_toArray, List.set_cons_zero, List.set_cons_succ]
  refine wpAnyH_take (i := 2) (oi := { dst := some 12, op := Op.fieldAddr 76 (Operand.tmp 11) 0, type := 0, pos := "ref.go:120", after := #[{ on := 1, ground := Ground.data }], guard := none }) (v := .pointer (some ⟨b, 0, none⟩)) rfl (by kernel_rfl) (by kernel_rfl) (by kernel_rfl) (fun _ _ _ h => h) (Or.inl ⟨by rfl, ?hy5_2⟩) (by assumption) ?rest5_2
  case hy5_2 => (intro w hSw; (try dsimp only at hSw); go_simp; try with_reducible rfl)
  try simp only [Act.put, List.setIfInBounds_toArray, List.set_cons_zero, List.set_cons_succ]
  refine wpAnyH_take (i := 3) (oi := { dst := some 13, op := Op.load 24 (Operand.tmp 12), type := 24, pos := "ref.go:120", after := #[{ on := 2, ground := Ground.data }], guard := none }) (v := .slice A n c) rfl (by kernel_rfl) (by kernel_rfl) (by kernel_rfl) (fun _ _ _ h => h) (Or.inl ⟨by rfl, ?hy5_3⟩) (by assumption) ?rest5_3
  case hy5_3 => (intro w hSw; have hq := (Below.cell hSw (p := ⟨b, 0, none⟩) hlt).trans c0; go_simp; try with_reducible rfl)
  try simp only [Act.put, List.setIfInBounds_toArray, List.set_cons_zero, List.set_cons_succ]
  refine wpAnyH_take (i := 4) (oi := { dst := some 14, op := Op.move (Operand.tmp 0), type := 74, pos := "ref.go:120", after := #[], guard := none }) (v := .pointer (some ⟨b, 0, none⟩)) rfl (by kernel_rfl) (by kernel_rfl) (by kernel_rfl) (fun _ _ _ h => h) (Or.inl ⟨by rfl, ?hy5_4⟩) (by assumption) ?rest5_4
  case hy5_4 => (intro w hSw; (try dsimp only at hSw); go_simp; try with_reducible rfl)
  try simp only [Act.put, List.setIfInBounds_toArray, List.set_cons_zero, List.set_cons_succ]
  refine wpAnyH_take (i := 5) (oi := { dst := some 15, op := Op.nilCheck (Operand.tmp 14), type := 0, pos := "ref.go:120", after := #[{ on := 4, ground := Ground.data }], guard := none }) (v := .pointer (some ⟨b, 0, none⟩)) rfl (by kernel_rfl) (by kernel_rfl) (by kernel_rfl) (fun _ _ _ h => h) (Or.inl ⟨by rfl, ?hy5_5⟩) (by assumption) ?rest5_5
  case hy5_5 => (intro w hSw; (try dsimp only at hSw); go_simp; try with_reducible rfl)
  try simp only [Act.put, List.setIfInBounds_toArray, List.set_cons_zero, List.set_cons_succ]
  refine wpAnyH_take (i := 6) (oi := { dst := some 16, op := Op.fieldAddr 76 (Operand.tmp 15) 1, type := 0, pos := "ref.go:120", after := #[{ on := 5, ground := Ground.data }], guard := none }) (v := .pointer (some ⟨b, 1, none⟩)) rfl (by kernel_rfl) (by kernel_rfl) (by kernel_rfl) (fun _ _ _ h => h) (Or.inl ⟨by rfl, ?hy5_6⟩) (by assumption) ?rest5_6
  case hy5_6 => (intro w hSw; (try dsimp only at hSw); go_simp; try with_reducible rfl)
  try simp only [Act.put, List.setIfInBounds_toArray, List.set_cons_zero, List.set_cons_succ]
  refine wpAnyH_take (i := 7) (oi := { dst := some 17, op := Op.load 3 (Operand.tmp 16), type := 3, pos := "ref.go:120", after := #[{ on := 6, ground := Ground.data }], guard := none }) (v := .int .i64 (at_ : Nat)) rfl (by kernel_rfl) (by kernel_rfl) (by kernel_rfl) (fun _ _ _ h => h) (Or.inl ⟨by rfl, ?hy5_7⟩) (by assumption) ?rest5_7
  case hy5_7 => (intro w hSw; have hq := (Below.cell hSw (p := ⟨b, 1, none⟩) hlt).trans c1; go_simp; try with_reducible rfl)
  try simp only [Act.put, List.setIfInBounds_toArray, List.set_cons_zero, List.set_cons_succ]
  refine wpAnyH_take (i := 8) (oi := { dst := some 18, op := Op.slice 24 (Operand.tmp 13) (some (Operand.tmp 17)) none none, type := 24, pos := "ref.go:120", after := #[{ on := 3, ground := Ground.data }, { on := 7, ground := Ground.data }], guard := none }) (v := .slice A9 (n - at_) c9) rfl (by kernel_rfl) (by kernel_rfl) (by kernel_rfl) (fun _ _ _ h => h) (Or.inl ⟨by rfl, ?hy5_8⟩) (by assumption) ?rest5_8
  case hy5_8 => (intro w hSw; (try dsimp only at hSw); go_simp; try with_reducible rfl)
  try simp only [Act.put, List.setIfInBounds_toArray, List.set_cons_zero, List.set_cons_succ]
  refine wpAnyH_ready (rs := [9]) (by kernel_rfl) (by simp) ?_
  refine AllReadyH.cons (o := { dst := some 19, op := Op.call { callee := Callee.value (Operand.func 64), args := #[Operand.tmp 18], argTypes := #[24] }, type := 100, pos := "ref.go:120", after := #[{ on := 8, ground := Ground.data }], guard := none }) rfl (fun K hK => ?_) AllReadyH.nil
  go_simp
  refine (HLK.out _ HS.out).mono ?_
  rintro e w4 ⟨rfl, hb4⟩
  have s4 : Below w.heap.size w w4 := HS.out.trans (hb4.mono HS.out.size)
  refine hK.out _ _ s4 (fun _ => ?_)
  clear hK K
  try simp only [Act.put, List.setIfInBounds_toArray, List.set_cons_zero, List.set_cons_succ]
  refine wpAnyH_take (i := 10) (oi := { dst := some 9, op := Op.move (Operand.tmp 19), type := 100, pos := "ref.go:120", after := #[{ on := 9, ground := Ground.data }], guard := none }) (v := .tuple #[.int .i64 (v1 : Nat), .int .i64 (v2 : Nat), .int .i64 (v3 : Nat)]) rfl (by kernel_rfl) (by kernel_rfl) (by kernel_rfl) (fun _ _ _ h => h) (Or.inl ⟨by rfl, ?hy5_10⟩) (by assumption) ?rest5_10
  case hy5_10 => (intro w hSw; (try dsimp only at hSw); go_simp; try with_reducible rfl)
  try simp only [Act.put, List.setIfInBounds_toArray, List.set_cons_zero, List.set_cons_succ]
  refine wpAnyH_take (i := 11) (oi := { dst := some 20, op := Op.extract (Operand.tmp 9) 0, type := 3, pos := "ref.go:120", after := #[{ on := 10, ground := Ground.data }], guard := none }) (v := .int .i64 (v1 : Nat)) rfl (by kernel_rfl) (by kernel_rfl) (by kernel_rfl) (fun _ _ _ h => h) (Or.inl ⟨by rfl, ?hy5_11⟩) (by assumption) ?rest5_11
  case hy5_11 => (intro w hSw; (try dsimp only at hSw); go_simp; try with_reducible rfl)
  try simp only [Act.put, List.setIfInBounds_toArray, List.set_cons_zero, List.set_cons_succ]
  refine wpAnyH_take (i := 12) (oi := { dst := some 21, op := Op.extract (Operand.tmp 9) 1, type := 3, pos := "ref.go:120", after := #[{ on := 10, ground := Ground.data }, { on := 14, ground := Ground.gcOnly Departure.lateStores }], guard := none }) (v := .int .i64 (v2 : Nat)) rfl (by kernel_rfl) (by kernel_rfl) (by kernel_rfl) (fun _ _ _ h => h) (Or.inl ⟨by rfl, ?hy5_12⟩) (by assumption) ?rest5_12
  case hy5_12 => (intro w hSw; (try dsimp only at hSw); go_simp; try with_reducible rfl)
  try simp only [Act.put, List.setIfInBounds_toArray, List.set_cons_zero, List.set_cons_succ]
  refine wpAnyH_take (i := 13) (oi := { dst := some 22, op := Op.extract (Operand.tmp 9) 2, type := 30, pos := "ref.go:120", after := #[{ on := 10, ground := Ground.data }, { on := 15, ground := Ground.gcOnly Departure.lateStores }], guard := none }) (v := .int .i64 (v3 : Nat)) rfl (by kernel_rfl) (by kernel_rfl) (by kernel_rfl) (fun _ _ _ h => h) (Or.inl ⟨by rfl, ?hy5_13⟩) (by assumption) ?rest5_13
  case hy5_13 => (intro w hSw; (try dsimp only at hSw); go_simp; try with_reducible rfl)
  try simp only [Act.put, List.setIfInBounds_toArray, List.set_cons_zero, List.set_cons_succ]
  refine wpAnyH_take (i := 14) (oi := { dst := some 6, op := Op.assign (Operand.tmp 20), type := 3, pos := "ref.go:120", after := #[{ on := 11, ground := Ground.data }, { on := 9, ground := Ground.chain }, { on := 0, ground := Ground.phase }, { on := 1, ground := Ground.phase }, { on := 2, ground := Ground.phase }, { on := 3, ground := Ground.phase }, { on := 4, ground := Ground.phase }, { on := 5, ground := Ground.phase }, { on := 6, ground := Ground.phase }, { on := 7, ground := Ground.phase }, { on := 8, ground := Ground.phase }, { on := 9, ground := Ground.phase }, { on := 10, ground := Ground.phase }, { on := 11, ground := Ground.phase }, { on := 12, ground := Ground.textOnly Departure.lateStores }, { on := 13, ground := Ground.textOnly Departure.lateStores }], guard := none }) (v := .int .i64 (v1 : Nat)) rfl (by kernel_rfl) (by kernel_rfl) (by kernel_rfl) (fun _ _ _ h => h) (Or.inl ⟨by rfl, ?hy5_14⟩) (by assumption) ?rest5_14
  case hy5_14 => (intro w hSw; (try dsimp only at hSw); go_simp; try with_reducible rfl)
  try simp only [Act.put, List.setIfInBounds_toArray, List.set_cons_zero, List.set_cons_succ]
  refine wpAnyH_take (i := 15) (oi := { dst := some 7, op := Op.assign (Operand.tmp 21), type := 3, pos := "ref.go:120", after := #[{ on := 12, ground := Ground.data }, { on := 14, ground := Ground.chain }, { on := 0, ground := Ground.phase }, { on := 1, ground := Ground.phase }, { on := 2, ground := Ground.phase }, { on := 3, ground := Ground.phase }, { on := 4, ground := Ground.phase }, { on := 5, ground := Ground.phase }, { on := 6, ground := Ground.phase }, { on := 7, ground := Ground.phase }, { on := 8, ground := Ground.phase }, { on := 9, ground := Ground.phase }, { on := 10, ground := Ground.phase }, { on := 11, ground := Ground.phase }, { on := 12, ground := Ground.phase }, { on := 13, ground := Ground.textOnly Departure.lateStores }, { on := 14, ground := Ground.phase }], guard := none }) (v := .int .i64 (v2 : Nat)) rfl (by kernel_rfl) (by kernel_rfl) (by kernel_rfl) (fun _ _ _ h => h) (Or.inl ⟨by rfl, ?hy5_15⟩) (by assumption) ?rest5_15
  case hy5_15 => (intro w hSw; (try dsimp only at hSw); go_simp; try with_reducible rfl)
  try simp only [Act.put, List.setIfInBounds_toArray, List.set_cons_zero, List.set_cons_succ]
  refine wpAnyH_take (i := 16) (oi := { dst := some 8, op := Op.assign (Operand.tmp 22), type := 30, pos := "ref.go:120", after := #[{ on := 13, ground := Ground.data }, { on := 15, ground := Ground.chain }, { on := 0, ground := Ground.phase }, { on := 1, ground := Ground.phase }, { on := 2, ground := Ground.phase }, { on := 3, ground := Ground.phase }, { on := 4, ground := Ground.phase }, { on := 5, ground := Ground.phase }, { on := 6, ground := Ground.phase }, { on := 7, ground := Ground.phase }, { on := 8, ground := Ground.phase }, { on := 9, ground := Ground.phase }, { on := 10, ground := Ground.phase }, { on := 11, ground := Ground.phase }, { on := 12, ground := Ground.phase }, { on := 13, ground := Ground.phase }, { on := 14, ground := Ground.phase }, { on := 15, ground := Ground.phase }], guard := none }) (v := .int .i64 (v3 : Nat)) rfl (by kernel_rfl) (by kernel_rfl) (by kernel_rfl) (fun _ _ _ h => h) (Or.inl ⟨by rfl, ?hy5_16⟩) (by assumption) ?rest5_16
  case hy5_16 => (intro w hSw; (try dsimp only at hSw); go_simp; try with_reducible rfl)
  try simp only [Act.put, List.setIfInBounds_toArray, List.set_cons_zero, List.set_cons_succ]
  refine wpAnyH_done (by kernel_rfl) ?_ _
  have h4 := H.out.below s4
  by_cases e3 : v3 = 0
  · subst e3
    by_cases e1 : 256 < v1
    · have e1i : (256 : Int) < (v1 : Int) := by omega
      have e1p : (0 : Int) < (v1 : Int) := by omega
      have hmx : max (256 : Int) 0 < (v1 : Int) := by omega
      have ht := HTX.out
      rw [if_pos rfl, if_pos hmx] at ht
      simp only [Prod.mk.injEq] at ht
      obtain ⟨rfl, rfl, rfl⟩ := ht
      go_wp2_with fail
      go_ret2
      exact ⟨none, 0, 0, rfl, Ow.nil _ _ _, h4, oct.Keep1.of s4⟩
    · have e1i : ¬ (256 : Int) < (v1 : Int) := by omega
      have hmx : ¬ max (256 : Int) 0 < (v1 : Int) := by omega
      have ht := HTX.out
      rw [if_pos rfl, if_neg hmx] at ht
      have d0 := h4.c0
      have d1 := h4.c1
      have d2 := h4.fz
      have hlt4 := h4.lt
      have hw1 : IntKind.i64.wrap ((n : Int) - (at_ : Int)) = (n : Int) - (at_ : Int) := by rw [IntKind.wrap_i64]; omega
      have hw2 : IntKind.i64.wrap ((n : Int) - (at_ : Int) - (v2 : Int)) = (n : Int) - (at_ : Int) - (v2 : Int) := by rw [IntKind.wrap_i64]; omega
      have hT0 : Below w4.heap.size w4 w4.drew := lz.below_drew (Below.refl _ _)
      go_upto_region 6 with fail
      by_cases e2 : n - at_ - v2 < v1
      · have e2i : (n : Int) - (at_ : Int) - (v2 : Int) < (v1 : Int) := by omega
        rw [if_pos e2] at ht
        simp only [Prod.mk.injEq] at ht
        obtain ⟨rfl, rfl, rfl⟩ := ht
        obtain ⟨wy, hwy⟩ : ∃ z, w4.drew = z := ⟨_, rfl⟩
        have HY := Lib.hid hT0
        rw [hwy] at HY
        refine wp_region_held_drew (S := fun y => Below w4.heap.size w4 y) (by kernel_rfl) hT0 (fun hHeld2 => ?_)
        rw [hwy] at hHeld2 ⊢
        clear hwy hT0
        refine wpAnyH_take (i := 0) (oi := { dst := some 33, op := Op.move (Operand.tmp 6), type := 3, pos := "ref.go:127", after := #[], guard := none }) (v := .int .i64 (v1 : Nat)) rfl (by kernel_rfl) (by kernel_rfl) (by kernel_rfl) (fun _ _ _ h => h) (Or.inl ⟨by rfl, ?hy6_0⟩) (by assumption) ?rest6_0
        case hy6_0 => (intro w hSw; (try dsimp only at hSw); go_simp; try with_reducible rfl)
        try simp only [Act.put, List.setIfInBounds_toArray, List.set_cons_zero, List.set_cons_succ]
        refine wpAnyH_take (i := 1) (oi := { dst := some 34, op := Op.move (Operand.tmp 0), type := 74, pos := "ref.go:127", after := #[], guard := none }) (v := .pointer (some ⟨b, 0, none⟩)) rfl (by kernel_rfl) (by kernel_rfl) (by kernel_rfl) (fun _ _ _ h => h) (Or.inl ⟨by rfl, ?hy6_1⟩) (by assumption) ?rest6_1
        case hy6_1 => (intro w hSw; (try dsimp only at hSw); go_simp; try with_reducible rfl)
        try simp only [Act.put, List.setIfInBounds_toArray, List.set_cons_zero, List.set_cons_succ]
        refine wpAnyH_take (i := 2) (oi := { dst := some 35, op := Op.nilCheck (Operand.tmp 34), type := 0, pos := "ref.go:127", after := #[{ on := 1, ground := Ground.data }], guard := none }) (v := .pointer (some ⟨b, 0, none⟩)) rfl (by kernel_rfl) (by kernel_rfl) (by kernel_rfl) (fun _ _ _ h => h) (Or.inl ⟨by rfl, ?hy6_2⟩) (by assumption) ?rest6_2
        case hy6_2 => (intro w hSw; (try dsimp only at hSw); go_simp; try with_reducible rfl)
        try simp only [Act.put, List.setIfInBounds_toArray, List.set_cons_zero, List.set_cons_succ]
        refine wpAnyH_take (i := 3) (oi := { dst := some 36, op := Op.fieldAddr 76 (Operand.tmp 35) 0, type := 0, pos := "ref.go:127", after := #[{ on := 2, ground := Ground.data }], guard := none }) (v := .pointer (some ⟨b, 0, none⟩)) rfl (by kernel_rfl) (by kernel_rfl) (by kernel_rfl) (fun _ _ _ h => h) (Or.inl ⟨by rfl, ?hy6_3⟩) (by assumption) ?rest6_3
        case hy6_3 => (intro w hSw; (try dsimp only at hSw); go_simp; try with_reducible rfl)
        try simp only [Act.put, List.setIfInBounds_toArray, List.set_cons_zero, List.set_cons_succ]
        refine wpAnyH_take (i := 4) (oi := { dst := some 37, op := Op.load 24 (Operand.tmp 36), type := 24, pos := "ref.go:127", after := #[{ on := 3, ground := Ground.data }], guard := none }) (v := .slice A n c) rfl (by kernel_rfl) (by kernel_rfl) (by kernel_rfl) (fun _ _ _ h => h) (Or.inl ⟨by rfl, ?hy6_4⟩) (by assumption) ?rest6_4
        case hy6_4 => (intro w hSw; have hq := (Below.cell hSw (p := ⟨b, 0, none⟩) hlt4).trans d0; go_simp; try with_reducible rfl)
        try simp only [Act.put, List.setIfInBounds_toArray, List.set_cons_zero, List.set_cons_succ]
        refine wpAnyH_take (i := 5) (oi := { dst := some 38, op := Op.call { callee := Callee.builtin Builtin.len, args := #[Operand.tmp 37], argTypes := #[24] }, type := 3, pos := "ref.go:127", after := #[{ on := 4, ground := Ground.data }], guard := none }) (v := .int .i64 (n : Nat)) rfl (by kernel_rfl) (by kernel_rfl) (by kernel_rfl) (fun _ _ _ h => h) (Or.inl ⟨by rfl, ?hy6_5⟩) (by assumption) ?rest6_5
        case hy6_5 => (intro w hSw; (try dsimp only at hSw); go_simp; try with_reducible rfl)
        try simp only [Act.put, List.setIfInBounds_toArray, List.set_cons_zero, List.set_cons_succ]
        refine wpAnyH_take (i := 6) (oi := { dst := some 39, op := Op.move (Operand.tmp 0), type := 74, pos := "ref.go:127", after := #[], guard := none }) (v := .pointer (some ⟨b, 0, none⟩)) rfl (by kernel_rfl) (by kernel_rfl) (by kernel_rfl) (fun _ _ _ h => h) (Or.inl ⟨by rfl, ?hy6_6⟩) (by assumption) ?rest6_6
        case hy6_6 => (intro w hSw; (try dsimp only at hSw); go_simp; try with_reducible rfl)
        try simp only [Act.put, List.setIfInBounds_toArray, List.set_cons_zero, List.set_cons_succ]
        refine wpAnyH_take (i := 7) (oi := { dst := some 40, op := Op.nilCheck (Operand.tmp 39), type := 0, pos := "ref.go:127", after := #[{ on := 6, ground := Ground.data }], guard := none }) (v := .pointer (some ⟨b, 0, none⟩)) rfl (by kernel_rfl) (by kernel_rfl) (by kernel_rfl) (fun _ _ _ h => h) (Or.inl ⟨by rfl, ?hy6_7⟩) (by assumption) ?rest6_7
        case hy6_7 => (intro w hSw; (try dsimp only at hSw); go_simp; try with_reducible rfl)
        try simp only [Act.put, List.setIfInBounds_toArray, List.set_cons_zero, List.set_cons_succ]
        refine wpAnyH_take (i := 8) (oi := { dst := some 41, op := Op.fieldAddr 76 (Operand.tmp 40) 1, type := 0, pos := "ref.go:127", after := #[{ on := 7, ground := Ground.data }], guard := none }) (v := .pointer (some ⟨b, 1, none⟩)) rfl (by kernel_rfl) (by kernel_rfl) (by kernel_rfl) (fun _ _ _ h => h) (Or.inl ⟨by rfl, ?hy6_8⟩) (by assumption) ?rest6_8
        case hy6_8 => (intro w hSw; (try dsimp only at hSw); go_simp; try with_reducible rfl)
        try simp only [Act.put, List.setIfInBounds_toArray, List.set_cons_zero, List.set_cons_succ]
        refine wpAnyH_take (i := 9) (oi := { dst := some 42, op := Op.load 3 (Operand.tmp 41), type := 3, pos := "ref.go:127", after := #[{ on := 8, ground := Ground.data }], guard := none }) (v := .int .i64 (at_ : Nat)) rfl (by kernel_rfl) (by kernel_rfl) (by kernel_rfl) (fun _ _ _ h => h) (Or.inl ⟨by rfl, ?hy6_9⟩) (by assumption) ?rest6_9
        case hy6_9 => (intro w hSw; have hq := (Below.cell hSw (p := ⟨b, 1, none⟩) hlt4).trans d1; go_simp; try with_reducible rfl)
        try simp only [Act.put, List.setIfInBounds_toArray, List.set_cons_zero, List.set_cons_succ]
        refine wpAnyH_take (i := 10) (oi := { dst := some 43, op := Op.binOp BinOp.sub 3 (Operand.tmp 38) (Operand.tmp 42) 3, type := 3, pos := "ref.go:127", after := #[{ on := 5, ground := Ground.data }, { on := 9, ground := Ground.data }], guard := none }) (v := .int .i64 ((n : Int) - (at_ : Int))) rfl (by kernel_rfl) (by kernel_rfl) (by kernel_rfl) (fun _ _ _ h => h) (Or.inl ⟨by rfl, ?hy6_10⟩) (by assumption) ?rest6_10
        case hy6_10 => (intro w hSw; go_simp; first | done | exact hw1 | omega)
        try simp only [Act.put, List.setIfInBounds_toArray, List.set_cons_zero, List.set_cons_succ]
        refine wpAnyH_take (i := 11) (oi := { dst := some 44, op := Op.move (Operand.tmp 7), type := 3, pos := "ref.go:127", after := #[], guard := none }) (v := .int .i64 (v2 : Nat)) rfl (by kernel_rfl) (by kernel_rfl) (by kernel_rfl) (fun _ _ _ h => h) (Or.inl ⟨by rfl, ?hy6_11⟩) (by assumption) ?rest6_11
        case hy6_11 => (intro w hSw; (try dsimp only at hSw); go_simp; try with_reducible rfl)
        try simp only [Act.put, List.setIfInBounds_toArray, List.set_cons_zero, List.set_cons_succ]
        refine wpAnyH_take (i := 12) (oi := { dst := some 45, op := Op.binOp BinOp.sub 3 (Operand.tmp 43) (Operand.tmp 44) 3, type := 3, pos := "ref.go:127", after := #[{ on := 10, ground := Ground.data }, { on := 11, ground := Ground.data }], guard := none }) (v := .int .i64 ((n : Int) - (at_ : Int) - (v2 : Int))) rfl (by kernel_rfl) (by kernel_rfl) (by kernel_rfl) (fun _ _ _ h => h) (Or.inl ⟨by rfl, ?hy6_12⟩) (by assumption) ?rest6_12
        case hy6_12 => (intro w hSw; go_simp; first | done | exact hw2 | omega)
        try simp only [Act.put, List.setIfInBounds_toArray, List.set_cons_zero, List.set_cons_succ]
        refine wpAnyH_take (i := 13) (oi := { dst := some 46, op := Op.binOp BinOp.gtr 3 (Operand.tmp 33) (Operand.tmp 45) 3, type := 4, pos := "ref.go:127", after := #[{ on := 0, ground := Ground.data }, { on := 12, ground := Ground.data }], guard := none }) (v := .bool true) rfl (by kernel_rfl) (by kernel_rfl) (by kernel_rfl) (fun _ _ _ h => h) (Or.inl ⟨by rfl, ?hy6_13⟩) (by assumption) ?rest6_13
        case hy6_13 => (intro w hSw; (try dsimp only at hSw); go_simp; try with_reducible rfl)
        try simp only [Act.put, List.setIfInBounds_toArray, List.set_cons_zero, List.set_cons_succ]
        refine wpAnyH_done (by kernel_rfl) ?_ _
        go_wp2_with fail
        go_ret2
        exact ⟨none, 0, 0, rfl, Ow.nil _ _ _, h4.below HY.out, oct.Keep1.of (s4.trans (HY.out.mono s4.size))⟩
      · have e2i : ¬ (n : Int) - (at_ : Int) - (v2 : Int) < (v1 : Int) := by omega
        rw [if_neg e2] at ht
        simp only [Prod.mk.injEq] at ht
        obtain ⟨rfl, rfl, rfl⟩ := ht
        obtain ⟨wy, hwy⟩ : ∃ z, w4.drew = z := ⟨_, rfl⟩
        have HY := Lib.hid hT0
        rw [hwy] at HY
        refine wp_region_held_drew (S := fun y => Below w4.heap.size w4 y) (by kernel_rfl) hT0 (fun hHeld2 => ?_)
        rw [hwy] at hHeld2 ⊢
        clear hwy hT0
        refine wpAnyH_take (i := 0) (oi := { dst := some 33, op := Op.move (Operand.tmp 6), type := 3, pos := "ref.go:127", after := #[], guard := none }) (v := .int .i64 (v1 : Nat)) rfl (by kernel_rfl) (by kernel_rfl) (by kernel_rfl) (fun _ _ _ h => h) (Or.inl ⟨by rfl, ?hy7_0⟩) (by assumption) ?rest7_0
        case hy7_0 => (intro w hSw; (try dsimp only at hSw); go_simp; try with_reducible rfl)
        try simp only [Act.put, List.setIfInBounds_toArray, List.set_cons_zero, List.set_cons_succ]
        refine wpAnyH_take (i := 1) (oi := { dst := some 34, op := Op.move (Operand.tmp 0), type := 74, pos := "ref.go:127", after := #[], guard := none }) (v := .pointer (some ⟨b, 0, none⟩)) rfl (by kernel_rfl) (by kernel_rfl) (by kernel_rfl) (fun _ _ _ h => h) (Or.inl ⟨by rfl, ?hy7_1⟩) (by assumption) ?rest7_1
        case hy7_1 => (intro w hSw; (try dsimp only at hSw); go_simp; try with_reducible rfl)
        try simp only [Act.put, List.setIfInBounds_toArray, List.set_cons_zero, List.set_cons_succ]
        refine wpAnyH_take (i := 2) (oi := { dst := some 35, op := Op.nilCheck (Operand.tmp 34), type := 0, pos := "ref.go:127", after := #[{ on := 1, ground := Ground.data }], guard := none }) (v := .pointer (some ⟨b, 0, none⟩)) rfl (by kernel_rfl) (by kernel_rfl) (by kernel_rfl) (fun _ _ _ h => h) (Or.inl ⟨by rfl, ?hy7_2⟩) (by assumption) ?rest7_2
        case hy7_2 => (intro w hSw; (try dsimp only at hSw); go_simp; try with_reducible rfl)
        try simp only [Act.put, List.setIfInBounds_toArray, List.set_cons_zero, List.set_cons_succ]
        refine wpAnyH_take (i := 3) (oi := { dst := some 36, op := Op.fieldAddr 76 (Operand.tmp 35) 0, type := 0, pos := "ref.go:127", after := #[{ on := 2, ground := Ground.data }], guard := none }) (v := .pointer (some ⟨b, 0, none⟩)) rfl (by kernel_rfl) (by kernel_rfl) (by kernel_rfl) (fun _ _ _ h => h) (Or.inl ⟨by rfl, ?hy7_3⟩) (by assumption) ?rest7_3
        case hy7_3 => (intro w hSw; (try dsimp only at hSw); go_simp; try with_reducible rfl)
        try simp only [Act.put, List.setIfInBounds_toArray, List.set_cons_zero, List.set_cons_succ]
        refine wpAnyH_take (i := 4) (oi := { dst := some 37, op := Op.load 24 (Operand.tmp 36), type := 24, pos := "ref.go:127", after := #[{ on := 3, ground := Ground.data }], guard := none }) (v := .slice A n c) rfl (by kernel_rfl) (by kernel_rfl) (by kernel_rfl) (fun _ _ _ h => h) (Or.inl ⟨by rfl, ?hy7_4⟩) (by assumption) ?rest7_4
        case hy7_4 => (intro w hSw; have hq := (Below.cell hSw (p := ⟨b, 0, none⟩) hlt4).trans d0; go_simp; try with_reducible rfl)
        try simp only [Act.put, List.setIfInBounds_toArray, List.set_cons_zero, List.set_cons_succ]
        refine wpAnyH_take (i := 5) (oi := { dst := some 38, op := Op.call { callee := Callee.builtin Builtin.len, args := #[Operand.tmp 37], argTypes := #[24] }, type := 3, pos := "ref.go:127", after := #[{ on := 4, ground := Ground.data }], guard := none }) (v := .int .i64 (n : Nat)) rfl (by kernel_rfl) (by kernel_rfl) (by kernel_rfl) (fun _ _ _ h => h) (Or.inl ⟨by rfl, ?hy7_5⟩) (by assumption) ?rest7_5
        case hy7_5 => (intro w hSw; (try dsimp only at hSw); go_simp; try with_reducible rfl)
        try simp only [Act.put, List.setIfInBounds_toArray, List.set_cons_zero, List.set_cons_succ]
        refine wpAnyH_take (i := 6) (oi := { dst := some 39, op := Op.move (Operand.tmp 0), type := 74, pos := "ref.go:127", after := #[], guard := none }) (v := .pointer (some ⟨b, 0, none⟩)) rfl (by kernel_rfl) (by kernel_rfl) (by kernel_rfl) (fun _ _ _ h => h) (Or.inl ⟨by rfl, ?hy7_6⟩) (by assumption) ?rest7_6
        case hy7_6 => (intro w hSw; (try dsimp only at hSw); go_simp; try with_reducible rfl)
        try simp only [Act.put, List.setIfInBounds_toArray, List.set_cons_zero, List.set_cons_succ]
        refine wpAnyH_take (i := 7) (oi := { dst := some 40, op := Op.nilCheck (Operand.tmp 39), type := 0, pos := "ref.go:127", after := #[{ on := 6, ground := Ground.data }], guard := none }) (v := .pointer (some ⟨b, 0, none⟩)) rfl (by kernel_rfl) (by kernel_rfl) (by kernel_rfl) (fun _ _ _ h => h) (Or.inl ⟨by rfl, ?hy7_7⟩) (by assumption) ?rest7_7
        case hy7_7 => (intro w hSw; (try dsimp only at hSw); go_simp; try with_reducible rfl)
        try simp only [Act.put, List.setIfInBounds_toArray, List.set_cons_zero, List.set_cons_succ]
        refine wpAnyH_take (i := 8) (oi := { dst := some 41, op := Op.fieldAddr 76 (Operand.tmp 40) 1, type := 0, pos := "ref.go:127", after := #[{ on := 7, ground := Ground.data }], guard := none }) (v := .pointer (some ⟨b, 1, none⟩)) rfl (by kernel_rfl) (by kernel_rfl) (by kernel_rfl) (fun _ _ _ h => h) (Or.inl ⟨by rfl, ?hy7_8⟩) (by assumption) ?rest7_8
        case hy7_8 => (intro w hSw; (try dsimp only at hSw); go_simp; try with_reducible rfl)
        try simp only [Act.put, List.setIfInBounds_toArray, List.set_cons_zero, List.set_cons_succ]
        refine wpAnyH_take (i := 9) (oi := { dst := some 42, op := Op.load 3 (Operand.tmp 41), type := 3, pos := "ref.go:127", after := #[{ on := 8, ground := Ground.data }], guard := none }) (v := .int .i64 (at_ : Nat)) rfl (by kernel_rfl) (by kernel_rfl) (by kernel_rfl) (fun _ _ _ h => h) (Or.inl ⟨by rfl, ?hy7_9⟩) (by assumption) ?rest7_9
        case hy7_9 => (intro w hSw; have hq := (Below.cell hSw (p := ⟨b, 1, none⟩) hlt4).trans d1; go_simp; try with_reducible rfl)
        try simp only [Act.put, List.setIfInBounds_toArray, List.set_cons_zero, List.set_cons_succ]
        refine wpAnyH_take (i := 10) (oi := { dst := some 43, op := Op.binOp BinOp.sub 3 (Operand.tmp 38) (Operand.tmp 42) 3, type := 3, pos := "ref.go:127", after := #[{ on := 5, ground := Ground.data }, { on := 9, ground := Ground.data }], guard := none }) (v := .int .i64 ((n : Int) - (at_ : Int))) rfl (by kernel_rfl) (by kernel_rfl) (by kernel_rfl) (fun _ _ _ h => h) (Or.inl ⟨by rfl, ?hy7_10⟩) (by assumption) ?rest7_10
        case hy7_10 => (intro w hSw; go_simp; first | done | exact hw1 | omega)
        try simp only [Act.put, List.setIfInBounds_toArray, List.set_cons_zero, List.set_cons_succ]
        refine wpAnyH_take (i := 11) (oi := { dst := some 44, op := Op.move (Operand.tmp 7), type := 3, pos := "ref.go:127", after := #[], guard := none }) (v := .int .i64 (v2 : Nat)) rfl (by kernel_rfl) (by kernel_rfl) (by kernel_rfl) (fun _ _ _ h => h) (Or.inl ⟨by rfl, ?hy7_11⟩) (by assumption) ?rest7_11
        case hy7_11 => (intro w hSw; (try dsimp only at hSw); go_simp; try with_reducible rfl)
        try simp only [Act.put, List.setIfInBounds_toArray, List.set_cons_zero, List.set_cons_succ]
        refine wpAnyH_take (i := 12) (oi := { dst := some 45, op := Op.binOp BinOp.sub 3 (Operand.tmp 43) (Operand.tmp 44) 3, type := 3, pos := "ref.go:127", after := #[{ on := 10, ground := Ground.data }, { on := 11, ground := Ground.data }], guard := none }) (v := .int .i64 ((n : Int) - (at_ : Int) - (v2 : Int))) rfl (by kernel_rfl) (by kernel_rfl) (by kernel_rfl) (fun _ _ _ h => h) (Or.inl ⟨by rfl, ?hy7_12⟩) (by assumption) ?rest7_12
        case hy7_12 => (intro w hSw; go_simp; first | done | exact hw2 | omega)
        try simp only [Act.put, List.setIfInBounds_toArray, List.set_cons_zero, List.set_cons_succ]
        refine wpAnyH_take (i := 13) (oi := { dst := some 46, op := Op.binOp BinOp.gtr 3 (Operand.tmp 33) (Operand.tmp 45) 3, type := 4, pos := "ref.go:127", after := #[{ on := 0, ground := Ground.data }, { on := 12, ground := Ground.data }], guard := none }) (v := .bool false) rfl (by kernel_rfl) (by kernel_rfl) (by kernel_rfl) (fun _ _ _ h => h) (Or.inl ⟨by rfl, ?hy7_13⟩) (by assumption) ?rest7_13
        case hy7_13 => (intro w hSw; (try dsimp only at hSw); go_simp; try with_reducible rfl)
        try simp only [Act.put, List.setIfInBounds_toArray, List.set_cons_zero, List.set_cons_succ]
        refine wpAnyH_done (by kernel_rfl) ?_ _
        have h5 := h4.below HY.out
        have f1 := h5.c1
        have f2 := h5.fz
        have hsum : at_ + (v2 + v1) ≤ n := by omega
        go_upto_region 9 with fail
        have h6 := h5.put (at_ + (v2 + v1)) hsum ((at_ : Int) + ((v2 : Int) + (v1 : Int))) (by omega)
        have k6 := (oct.Keep1.of (s4.trans (HY.out.mono s4.size)) (b := b)).trans (oct.Keep1.set wy b 1 (.int .i64 ((at_ : Int) + ((v2 : Int) + (v1 : Int)))))
        obtain ⟨w6, hw6⟩ : ∃ z, wy.setCell ⟨b, 1, none⟩ (.int .i64 ((at_ : Int) + ((v2 : Int) + (v1 : Int)))) = z := ⟨_, rfl⟩
        rw [hw6] at h6 k6 ⊢
        have g0 := h6.c0
        have g1 := h6.c1
        have hlt6 := h6.lt
        obtain ⟨A8, c8, hsl2, hc8, hrd8⟩ := cut_lh_run h6.rd (at_ + v2) (at_ + (v2 + v1)) (by omega) hsum h6.hc
        have hw3 : IntKind.i64.wrap (((at_ + (v2 + v1) : Nat) : Int) - (v1 : Int)) = ((at_ + v2 : Nat) : Int) := by rw [IntKind.wrap_i64]; omega
        have hw4 : IntKind.i64.wrap ((at_ : Int) + ((v2 : Int) + (v1 : Int)) - (v1 : Int)) = (at_ : Int) + (v2 : Int) := by rw [IntKind.wrap_i64]; omega
        have hX0 : Below w6.heap.size w6 w6.drew := lz.below_drew (Below.refl _ _)
        have hmm : at_ + (v2 + v1) - (at_ + v2) = v1 := by omega
        have heq : List.take v1 (List.drop v2 (List.drop at_ L)) = List.take v1 (List.drop (at_ + v2) L) := by rw [List.drop_drop]
        rw [hmm] at hsl2 hc8 hrd8
        have hsl3 : ∀ y : World, (Instr.sliceAt 24 (.slice A n c) (some (.int .i64 ((at_ : Int) + (v2 : Int)))) (some (.int .i64 ((at_ : Int) + ((v2 : Int) + (v1 : Int))))) none).run Tryd.prog y = .ok (.slice A8 v1 c8) y := fun y => by have := hsl2 y; push_cast at this; exact this
        obtain ⟨wx, hwx⟩ : ∃ z, w6.drew = z := ⟨_, rfl⟩
        have HX := Lib.hid hX0
        rw [hwx] at HX
        have H6 := Lib.hid h6
        have HEQ := Lib.hid heq
        have HRD8 := Lib.hid hrd8
        clear h6 h5 hw6 heq hrd8 f1 f2 d0 d1 d2 h4
        refine wp_region_held_drew (S := fun y => Below w6.heap.size w6 y) (by kernel_rfl) hX0 (fun hHeld3 => ?_)
        rw [hwx] at hHeld3 ⊢
        clear hwx hX0
        refine wpAnyH_take (i := 1) (oi := { dst := some 58, op := Op.move (Operand.tmp 0), type := 74, pos := "ref.go:131", after := #[], guard := none }) (v := .pointer (some ⟨b, 0, none⟩)) rfl (by kernel_rfl) (by kernel_rfl) (by kernel_rfl) (fun _ _ _ h => h) (Or.inl ⟨by rfl, ?hy8_1⟩) (by assumption) ?rest8_1
        case hy8_1 => (intro w hSw; (try dsimp only at hSw); go_simp; try with_reducible rfl)
        try simp only [Act.put, List.setIfInBounds_toArray, List.set_cons_zero, List.set_cons_succ]
        refine wpAnyH_take (i := 2) (oi := { dst := some 59, op := Op.nilCheck (Operand.tmp 58), type := 0, pos := "ref.go:131", after := #[{ on := 1, ground := Ground.data }], guard := none }) (v := .pointer (some ⟨b, 0, none⟩)) rfl (by kernel_rfl) (by kernel_rfl) (by kernel_rfl) (fun _ _ _ h => h) (Or.inl ⟨by rfl, ?hy8_2⟩) (by assumption) ?rest8_2
        case hy8_2 => (intro w hSw; (try dsimp only at hSw); go_simp; try with_reducible rfl)
        try simp only [Act.put, List.setIfInBounds_toArray, List.set_cons_zero, List.set_cons_succ]
        refine wpAnyH_take (i := 3) (oi := { dst := some 60, op := Op.fieldAddr 76 (Operand.tmp 59) 0, type := 0, pos := "ref.go:131", after := #[{ on := 2, ground := Ground.data }], guard := none }) (v := .pointer (some ⟨b, 0, none⟩)) rfl (by kernel_rfl) (by kernel_rfl) (by kernel_rfl) (fun _ _ _ h => h) (Or.inl ⟨by rfl, ?hy8_3⟩) (by assumption) ?rest8_3
        case hy8_3 => (intro w hSw; (try dsimp only at hSw); go_simp; try with_reducible rfl)
        try simp only [Act.put, List.setIfInBounds_toArray, List.set_cons_zero, List.set_cons_succ]
        refine wpAnyH_take (i := 4) (oi := { dst := some 61, op := Op.load 24 (Operand.tmp 60), type := 24, pos := "ref.go:131", after := #[{ on := 3, ground := Ground.data }], guard := none }) (v := .slice A n c) rfl (by kernel_rfl) (by kernel_rfl) (by kernel_rfl) (fun _ _ _ h => h) (Or.inl ⟨by rfl, ?hy8_4⟩) (by assumption) ?rest8_4
        case hy8_4 => (intro w hSw; have hq := (Below.cell hSw (p := ⟨b, 0, none⟩) hlt6).trans g0; go_simp; try with_reducible rfl)
        try simp only [Act.put, List.setIfInBounds_toArray, List.set_cons_zero, List.set_cons_succ]
        refine wpAnyH_take (i := 5) (oi := { dst := some 62, op := Op.move (Operand.tmp 0), type := 74, pos := "ref.go:131", after := #[], guard := none }) (v := .pointer (some ⟨b, 0, none⟩)) rfl (by kernel_rfl) (by kernel_rfl) (by kernel_rfl) (fun _ _ _ h => h) (Or.inl ⟨by rfl, ?hy8_5⟩) (by assumption) ?rest8_5
        case hy8_5 => (intro w hSw; (try dsimp only at hSw); go_simp; try with_reducible rfl)
        try simp only [Act.put, List.setIfInBounds_toArray, List.set_cons_zero, List.set_cons_succ]
        refine wpAnyH_take (i := 6) (oi := { dst := some 63, op := Op.nilCheck (Operand.tmp 62), type := 0, pos := "ref.go:131", after := #[{ on := 5, ground := Ground.data }], guard := none }) (v := .pointer (some ⟨b, 0, none⟩)) rfl (by kernel_rfl) (by kernel_rfl) (by kernel_rfl) (fun _ _ _ h => h) (Or.inl ⟨by rfl, ?hy8_6⟩) (by assumption) ?rest8_6
        case hy8_6 => (intro w hSw; (try dsimp only at hSw); go_simp; try with_reducible rfl)
        try simp only [Act.put, List.setIfInBounds_toArray, List.set_cons_zero, List.set_cons_succ]
        refine wpAnyH_take (i := 7) (oi := { dst := some 64, op := Op.fieldAddr 76 (Operand.tmp 63) 1, type := 0, pos := "ref.go:131", after := #[{ on := 6, ground := Ground.data }], guard := none }) (v := .pointer (some ⟨b, 1, none⟩)) rfl (by kernel_rfl) (by kernel_rfl) (by kernel_rfl) (fun _ _ _ h => h) (Or.inl ⟨by rfl, ?hy8_7⟩) (by assumption) ?rest8_7
        case hy8_7 => (intro w hSw; (try dsimp only at hSw); go_simp; try with_reducible rfl)
        try simp only [Act.put, List.setIfInBounds_toArray, List.set_cons_zero, List.set_cons_succ]
        refine wpAnyH_take (i := 8) (oi := { dst := some 65, op := Op.load 3 (Operand.tmp 64), type := 3, pos := "ref.go:131", after := #[{ on := 7, ground := Ground.data }], guard := none }) (v := .int .i64 (at_ + (v2 + v1) : Nat)) rfl (by kernel_rfl) (by kernel_rfl) (by kernel_rfl) (fun _ _ _ h => h) (Or.inl ⟨by rfl, ?hy8_8⟩) (by assumption) ?rest8_8
        case hy8_8 => (intro w hSw; have hq := (Below.cell hSw (p := ⟨b, 1, none⟩) hlt6).trans g1; go_simp; try with_reducible rfl)
        try simp only [Act.put, List.setIfInBounds_toArray, List.set_cons_zero, List.set_cons_succ]
        refine wpAnyH_take (i := 9) (oi := { dst := some 66, op := Op.move (Operand.tmp 6), type := 3, pos := "ref.go:131", after := #[], guard := none }) (v := .int .i64 (v1 : Nat)) rfl (by kernel_rfl) (by kernel_rfl) (by kernel_rfl) (fun _ _ _ h => h) (Or.inl ⟨by rfl, ?hy8_9⟩) (by assumption) ?rest8_9
        case hy8_9 => (intro w hSw; (try dsimp only at hSw); go_simp; try with_reducible rfl)
        try simp only [Act.put, List.setIfInBounds_toArray, List.set_cons_zero, List.set_cons_succ]
        refine wpAnyH_take (i := 10) (oi := { dst := some 67, op := Op.binOp BinOp.sub 3 (Operand.tmp 65) (Operand.tmp 66) 3, type := 3, pos := "ref.go:131", after := #[{ on := 8, ground := Ground.data }, { on := 9, ground := Ground.data }], guard := none }) (v := .int .i64 (at_ + v2 : Nat)) rfl (by kernel_rfl) (by kernel_rfl) (by kernel_rfl) (fun _ _ _ h => h) (Or.inl ⟨by rfl, ?hy8_10⟩) (by assumption) ?rest8_10
        case hy8_10 => (intro w hSw; go_simp; first | done | exact hw3 | exact hw4 | (rw [hw3]) | (rw [hw4]) | (rw [hw4]; simp) | omega)
        try simp only [Act.put, List.setIfInBounds_toArray, List.set_cons_zero, List.set_cons_succ]
        refine wpAnyH_take (i := 11) (oi := { dst := some 68, op := Op.move (Operand.tmp 0), type := 74, pos := "ref.go:131", after := #[], guard := none }) (v := .pointer (some ⟨b, 0, none⟩)) rfl (by kernel_rfl) (by kernel_rfl) (by kernel_rfl) (fun _ _ _ h => h) (Or.inl ⟨by rfl, ?hy8_11⟩) (by assumption) ?rest8_11
        case hy8_11 => (intro w hSw; (try dsimp only at hSw); go_simp; try with_reducible rfl)
        try simp only [Act.put, List.setIfInBounds_toArray, List.set_cons_zero, List.set_cons_succ]
        refine wpAnyH_take (i := 12) (oi := { dst := some 69, op := Op.nilCheck (Operand.tmp 68), type := 0, pos := "ref.go:131", after := #[{ on := 11, ground := Ground.data }], guard := none }) (v := .pointer (some ⟨b, 0, none⟩)) rfl (by kernel_rfl) (by kernel_rfl) (by kernel_rfl) (fun _ _ _ h => h) (Or.inl ⟨by rfl, ?hy8_12⟩) (by assumption) ?rest8_12
        case hy8_12 => (intro w hSw; (try dsimp only at hSw); go_simp; try with_reducible rfl)
        try simp only [Act.put, List.setIfInBounds_toArray, List.set_cons_zero, List.set_cons_succ]
        refine wpAnyH_take (i := 13) (oi := { dst := some 70, op := Op.fieldAddr 76 (Operand.tmp 69) 1, type := 0, pos := "ref.go:131", after := #[{ on := 12, ground := Ground.data }], guard := none }) (v := .pointer (some ⟨b, 1, none⟩)) rfl (by kernel_rfl) (by kernel_rfl) (by kernel_rfl) (fun _ _ _ h => h) (Or.inl ⟨by rfl, ?hy8_13⟩) (by assumption) ?rest8_13
        case hy8_13 => (intro w hSw; (try dsimp only at hSw); go_simp; try with_reducible rfl)
        try simp only [Act.put, List.setIfInBounds_toArray, List.set_cons_zero, List.set_cons_succ]
        refine wpAnyH_take (i := 14) (oi := { dst := some 71, op := Op.load 3 (Operand.tmp 70), type := 3, pos := "ref.go:131", after := #[{ on := 13, ground := Ground.data }], guard := none }) (v := .int .i64 (at_ + (v2 + v1) : Nat)) rfl (by kernel_rfl) (by kernel_rfl) (by kernel_rfl) (fun _ _ _ h => h) (Or.inl ⟨by rfl, ?hy8_14⟩) (by assumption) ?rest8_14
        case hy8_14 => (intro w hSw; have hq := (Below.cell hSw (p := ⟨b, 1, none⟩) hlt6).trans g1; go_simp; try with_reducible rfl)
        try simp only [Act.put, List.setIfInBounds_toArray, List.set_cons_zero, List.set_cons_succ]
        refine wpAnyH_take (i := 15) (oi := { dst := some 72, op := Op.slice 24 (Operand.tmp 61) (some (Operand.tmp 67)) (some (Operand.tmp 71)) none, type := 24, pos := "ref.go:131", after := #[{ on := 4, ground := Ground.data }, { on := 10, ground := Ground.data }, { on := 14, ground := Ground.data }], guard := none }) (v := .slice A8 v1 c8) rfl (by kernel_rfl) (by kernel_rfl) (by kernel_rfl) (fun _ _ _ h => h) (Or.inl ⟨by rfl, ?hy8_15⟩) (by assumption) ?rest8_15
        case hy8_15 => (intro w hSw; (try dsimp only at hSw); go_simp; try with_reducible rfl)
        try simp only [Act.put, List.setIfInBounds_toArray, List.set_cons_zero, List.set_cons_succ]
        refine wpAnyH_ready (rs := [0]) (by kernel_rfl) (by simp) ?_
        refine AllReadyH.cons (o := { dst := some 57, op := Op.buildSlice 24 0 #[], type := 24, pos := "ref.go:131", after := #[], guard := none }) rfl (fun K hK => ?_) AllReadyH.nil
        go_simp
        have hV0 : Below w6.heap.size w6 (wx.alloc (.cells #[] 5)) := HX.out.alloc HX.out.size _
        refine hK.out _ _ hV0 (fun _ => ?_)
        clear hK K
        try simp only [Act.put, List.setIfInBounds_toArray, List.set_cons_zero, List.set_cons_succ]
        refine wpAnyH_ready (rs := [16]) (by kernel_rfl) (by simp) ?_
        refine AllReadyH.cons (o := { dst := some 73, op := Op.call { callee := Callee.builtin Builtin.append, args := #[Operand.tmp 57, Operand.tmp 72], argTypes := #[24, 24] }, type := 24, pos := "ref.go:131", after := #[{ on := 0, ground := Ground.data }, { on := 15, ground := Ground.data }], guard := none }) rfl (fun K hK => ?_) AllReadyH.nil
        refine step_app oct.u8ty rfl (.tmp 57) (.tmp 72) rfl rfl rfl (Ow.lit0 wx 5 (Nat.le_refl _)) (HRD8.out _ (H6.out.rd.below hV0 (Nat.le_of_lt hlt6))) (bv_one _) (by omega) (by omega) (by simp) ?_
        intro A3 n3 d3 w3 ho3 hn3 hb3 hg3
        refine hK.out _ _ (hV0.trans (hb3.mono HX.out.size)) (fun _ => ?_)
        clear hK K
        try simp only [Act.put, List.setIfInBounds_toArray, List.set_cons_zero, List.set_cons_succ]
        refine wpAnyH_take (i := 17) (oi := { dst := some 4, op := Op.assign (Operand.tmp 73), type := 24, pos := "ref.go:131", after := #[{ on := 16, ground := Ground.data }, { on := 16, ground := Ground.chain }, { on := 0, ground := Ground.phase }, { on := 1, ground := Ground.phase }, { on := 2, ground := Ground.phase }, { on := 3, ground := Ground.phase }, { on := 4, ground := Ground.phase }, { on := 5, ground := Ground.phase }, { on := 6, ground := Ground.phase }, { on := 7, ground := Ground.phase }, { on := 8, ground := Ground.phase }, { on := 9, ground := Ground.phase }, { on := 10, ground := Ground.phase }, { on := 11, ground := Ground.phase }, { on := 12, ground := Ground.phase }, { on := 13, ground := Ground.phase }, { on := 14, ground := Ground.phase }, { on := 15, ground := Ground.phase }, { on := 16, ground := Ground.phase }], guard := none }) (v := .slice A3 n3 d3) rfl (by kernel_rfl) (by kernel_rfl) (by kernel_rfl) (fun _ _ _ h => h) (Or.inl ⟨by rfl, ?hy8_17⟩) (by assumption) ?rest8_17
        case hy8_17 => (intro w hSw; (try dsimp only at hSw); go_simp; try with_reducible rfl)
        try simp only [Act.put, List.setIfInBounds_toArray, List.set_cons_zero, List.set_cons_succ]
        refine wpAnyH_take (i := 18) (oi := { dst := some 5, op := Op.assign (Operand.const (Value.int IntKind.i64 0)), type := 30, pos := "ref.go:131", after := #[{ on := 17, ground := Ground.chain }, { on := 0, ground := Ground.phase }, { on := 1, ground := Ground.phase }, { on := 2, ground := Ground.phase }, { on := 3, ground := Ground.phase }, { on := 4, ground := Ground.phase }, { on := 5, ground := Ground.phase }, { on := 6, ground := Ground.phase }, { on := 7, ground := Ground.phase }, { on := 8, ground := Ground.phase }, { on := 9, ground := Ground.phase }, { on := 10, ground := Ground.phase }, { on := 11, ground := Ground.phase }, { on := 12, ground := Ground.phase }, { on := 13, ground := Ground.phase }, { on := 14, ground := Ground.phase }, { on := 15, ground := Ground.phase }, { on := 16, ground := Ground.phase }, { on := 17, ground := Ground.phase }], guard := none }) (v := .int .i64 0) rfl (by kernel_rfl) (by kernel_rfl) (by kernel_rfl) (fun _ _ _ h => h) (Or.inl ⟨by rfl, ?hy8_18⟩) (by assumption) ?rest8_18
        case hy8_18 => (intro w hSw; (try dsimp only at hSw); go_simp; try with_reducible rfl)
        try simp only [Act.put, List.setIfInBounds_toArray, List.set_cons_zero, List.set_cons_succ]
        refine wpAnyH_done (by kernel_rfl) ?_ _
        go_wp2_with fail
        go_ret2
        have s3 := hV0.trans (hb3.mono HX.out.size)
        have hww : w.heap.size ≤ wx.heap.size := Nat.le_trans k6.size HX.out.size
        refine ⟨A3, n3, d3, rfl, ?_, H6.out.below s3, k6.trans (oct.Keep1.of s3)⟩
        try rw [HEQ.out]
        rw [List.nil_append] at ho3
        exact ho3.base hww
  · have e3b : ((v3 : Int) == 0) = false := beq_eq_false_iff_ne.2 (by omega)
    have ht := HTX.out
    rw [if_neg e3] at ht
    simp only [Prod.mk.injEq] at ht
    obtain ⟨rfl, rfl, rfl⟩ := ht
    go_wp2_with fail
    go_ret2
    exact ⟨none, 0, 0, rfl, Ow.nil _ _ _, h4, oct.Keep1.of s4⟩
end Go.Proofs.YtbcgnacfhpahkaaDoor.rc
namespace Go.Proofs.YtbcgnacfhpahkaaDoor.rc
set_option maxRecDepth 20000
open Go.RowKit Mem OM LM DM
set_option linter.unusedVariables false
set_option linter.unusedSimpArgs false
attribute [local go_sem] Oper.semAt_some
/-- the document's reader, by what is left -/
def DL (w : World) (b : Nat) (A : Option Addr) (n c : Nat) (L l : List UInt8) : Prop := ∃ at_, DR w b A n c L at_ ∧ L.drop at_ = l
theorem DL.other {w w' : World} {b k : Nat} {A : Option Addr} {n c : Nat} {L l : List UInt8} (h : DL w b A n c L l) (k1 : oct.Keep1 w w' k) (hk : b < k) : DL w' b A n c L l := by
  obtain ⟨a, h1, h2⟩ := h
  exact ⟨a, h1.other k1 hk, h2⟩
theorem DL.below {w w' : World} {b : Nat} {A : Option Addr} {n c : Nat} {L l : List UInt8} (h : DL w b A n c L l) (hb : Below w.heap.size w w') : DL w' b A n c L l := by
  obtain ⟨a, h1, h2⟩ := h
  exact ⟨a, h1.below hb, h2⟩
theorem DL.lt {w : World} {b : Nat} {A : Option Addr} {n c : Nat} {L l : List UInt8} (h : DL w b A n c L l) : b < w.heap.size := by obtain ⟨a, h1, _⟩ := h; exact h1.lt
theorem DL.rd {w : World} {b : Nat} {A : Option Addr} {n c : Nat} {L l : List UInt8} (h : DL w b A n c L l) : Rd w b A n (bv L) := by obtain ⟨a, h1, _⟩ := h; exact h1.rd
theorem dnum_l (b : Nat) (A : Option Addr) (n c : Nat) (L l : List UInt8) (f : Bool) (w : World) (h : DL w b A n c L l) {k : Int} {l1 : List UInt8} {f1 : Bool} (hs : numS l f = (k, l1, f1)) :
    Calls Tryd.prog 50 #[.pointer (some ⟨b, 0, none⟩)] w fun e w' => ∃ er : Int, e = .returned (.tuple #[.int .i64 k, .int .i64 er]) ∧ DL w' b A n c L l1 ∧ oct.Keep1 w w' b := by
  obtain ⟨a, h1, rfl⟩ := h
  have := dnum_any b A n c L a w h1
  unfold DNumPost at this
  unfold numS at hs
  simp only [Prod.mk.injEq] at hs
  obtain ⟨e1, e2, e3⟩ := hs
  refine this.mono ?_
  rintro e w' ⟨rfl, hd, hk⟩
  exact ⟨(((lk (L.drop a)).2.2 : Nat) : Int), by rw [e1], ⟨_, hd, by rw [← e2, List.drop_drop]⟩, hk⟩
theorem dbyte_l (b : Nat) (A : Option Addr) (n c : Nat) (L l : List UInt8) (w : World) (h : DL w b A n c L l) :
    Calls Tryd.prog 51 #[.pointer (some ⟨b, 0, none⟩)] w fun e w' => e = .returned (.tuple #[.int .u8 ((oct.byteR l).1.toNat : Int), .int .i64 ((oct.byteR l).2.2 : Nat)]) ∧ DL w' b A n c L (l.drop (oct.byteR l).2.1) ∧ oct.Keep1 w w' b := by
  obtain ⟨a, h1, rfl⟩ := h
  have := dbyte_any b A n c L a w h1
  unfold DBytePost at this
  exact this.mono fun e w' ⟨he, hd, hk⟩ => ⟨he, ⟨_, hd, by rw [List.drop_drop]⟩, hk⟩
theorem dtext_l (b : Nat) (A : Option Addr) (n c : Nat) (L l : List UInt8) (w : World) (h : DL w b A n c L l) :
    Calls Tryd.prog 52 #[.pointer (some ⟨b, 0, none⟩), .int .i64 256] w fun e w' => ∃ A' N' c', e = .returned (.tuple #[.slice A' N' c', .int .i64 ((oct.textR l 256).2.2 : Nat)]) ∧ Ow w' w.heap.size 5 A' N' c' (bv (oct.textR l 256).1) ∧ DL w' b A n c L (l.drop (oct.textR l 256).2.1) ∧ oct.Keep1 w w' b := by
  obtain ⟨a, h1, rfl⟩ := h
  have := dtext_any b A n c L a w h1
  unfold DTextPost at this
  exact this.mono fun e w' ⟨A', N', c', he, ho, hd, hk⟩ => ⟨A', N', c', he, ho, ⟨_, hd, by rw [List.drop_drop]⟩, hk⟩
/-- the state of the document's Get: the answer's note r, the reader b, the note g, which has NL -/
structure GD (w wr : World) (b r g : Nat) (A : Option Addr) (n c : Nat) (L l : List UInt8) (NL : List Value) : Prop where
  rd : DL wr b A n c L l
  rng : wr.rangeAt g 0 NL
  th : wr.there g 0 40
  tr : wr.there r 0 40
  bel : Below w.heap.size w wr
  hr : w.heap.size ≤ r
  hrb : r < b
  hbg : b < g
  hg : g < wr.heap.size
theorem there_keep1 {w w' : World} {b b2 o n : Nat} (h : w.there b2 o n) (hk : oct.Keep1 w w' b) (hlt : b2 < w.heap.size) (h1 : b2 ≠ b) : w'.there b2 o n := there_keep2 h (Keep2.of1 b hk) hlt h1 h1
theorem range_keep1 {w w' : World} {b b2 o : Nat} {cs : List Value} (h : w.rangeAt b2 o cs) (hk : oct.Keep1 w w' b) (hlt : b2 < w.heap.size) (h1 : b2 ≠ b) : w'.rangeAt b2 o cs := range_keep2 h (Keep2.of1 b hk) hlt h1 h1
theorem GD.call {w wr w' : World} {b r g : Nat} {A : Option Addr} {n c : Nat} {L l l' : List UInt8} {NL : List Value} (h : GD w wr b r g A n c L l NL) (hr : DL w' b A n c L l') (k : oct.Keep1 wr w' b) : GD w w' b r g A n c L l' NL := by
  have := h.hr
  have := h.hrb
  have := h.hbg
  have := h.hg
  have := h.bel.size
  exact ⟨hr, range_keep1 h.rng k h.hg (by omega), there_keep1 h.th k h.hg (by omega), there_keep1 h.tr k (by omega) (by omega), k.below h.bel (by omega) (by omega), h.hr, h.hrb, h.hbg, Nat.lt_of_lt_of_le h.hg k.size⟩
theorem GD.belw {w wr w' : World} {b r g : Nat} {A : Option Addr} {n c : Nat} {L l : List UInt8} {NL : List Value} (h : GD w wr b r g A n c L l NL) (hb : Below wr.heap.size wr w') : GD w w' b r g A n c L l NL :=
  h.call (h.rd.below hb) (oct.Keep1.of hb)
theorem GD.set {w wr : World} {b r g : Nat} {A : Option Addr} {n c : Nat} {L l : List UInt8} {NL : List Value} (h : GD w wr b r g A n c L l NL) (i : Nat) (v : Value) : GD w (wr.setCell ⟨g, i, none⟩ v) b r g A n c L l (NL.set i v) := by
  have := h.hr
  have := h.hrb
  have := h.hbg
  have := h.hg
  have := h.bel.size
  have k1 := oct.Keep1.set wr g i v
  exact ⟨h.rd.other k1 h.hbg, range_set1 h.rng i v, there_set1 h.th g i v, there_set1 h.tr g i v, k1.below h.bel (by omega) (by omega), h.hr, h.hrb, h.hbg, Nat.lt_of_lt_of_le h.hg k1.size⟩
theorem GD.at {w wr : World} {b r g : Nat} {A : Option Addr} {n c : Nat} {L l : List UInt8} {NL : List Value} (h : GD w wr b r g A n c L l NL) (i : Nat) (hi : i < 40) : ∃ v, wr.cell? ⟨g, i, none⟩ = some v ∧ wr.frozen? ⟨g, i, none⟩ = false := by
  have := h.th i hi
  rw [Nat.zero_add] at this
  exact ⟨_, Option.eq_some_of_isSome this.1, this.2⟩
theorem noteV_set0 (N N' : Int) (v : Nat → Int) (K S : Int) (d : List UInt8) (A : Option Addr) (n c : Nat) : (noteV N v K S d A n c).set 0 (.int .i64 N') = noteV N' v K S d A n c := rfl
theorem six_at (i : Nat) (h : i < 6) : (nv [1, 2, 3, 4, 5, 6])[i]? = some (.int .i64 ((i : Int) + 1)) := by
  match i, h with
  | 0, _ => rfl
  | 1, _ => rfl
  | 2, _ => rfl
  | 3, _ => rfl
  | 4, _ => rfl
  | 5, _ => rfl
end Go.Proofs.YtbcgnacfhpahkaaDoor.rc
