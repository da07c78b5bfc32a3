/- lz: literals. -/
import Derived.Test.YtbcgnacfhpahkaaDoorLzH
namespace Go.Proofs.YtbcgnacfhpahkaaDoor.lz
set_option maxRecDepth 20000
open Go.RowKit Go.Shelf Mem OM LM oct
set_option linter.unusedVariables false
attribute [local go_sem] Oper.semAt_some
theorem u8info : ∃ i z, Tryd.prog.info? 5 = some i ∧ i.zero = some z ∧ i.size = 1 ∧ i.bytes = 1 ∧ z.cells.size = 1 := by
  obtain ⟨i, h1, h2, h3, h4⟩ := u8ty.hi
  exact ⟨i, _, h1, h2, h3, h4, rfl⟩
theorem Boxed.appended0 {W w1 : World} {n₀ B : Nat} {t e : TypeId} {size : Nat} {v v' : Value} {k m : Nat} {xs ys : List Value}
    (hv : Boxed W B t v) (hte : t ≠ e) (hrow : W.ownsRow n₀ e size v k xs) (hn₀ : n₀ ≤ W.heap.size) (hB : n₀ ≤ B)
    (hown' : w1.ownsRow n₀ e size v' m ys) (hgrow : W.grownBy w1 v.ownBlock) :
    Boxed w1 B t v ∧ Boxed (w1.setCell ⟨B, 0, none⟩ v') B t v' ∧ (w1.setCell ⟨B, 0, none⟩ v').ownsRow n₀ e size v' m ys ∧ KeepsOthers W (w1.setCell ⟨B, 0, none⟩ v') ∧ Below n₀ W (w1.setCell ⟨B, 0, none⟩ v') := by
  have hv1 : Boxed w1 B t v := hv.kept hgrow (hv.not_row hte hrow)
  refine ⟨hv1, hv1.set v', hown'.kept (grownBy_setCell' w1 B v') (.inr (hv1.not_row hte hown').symm), ?_, ?_⟩
  · refine (KeepsOthers.of_grownBy hgrow fun j o ej hj => ?_).trans (KeepsOthers.setCell _ _ _)
    rcases hrow.2 with ⟨rfl, _⟩ | ⟨g, cap, cur, rfl, _, hgb, _⟩
    · simp [Value.ownBlock] at ej
    · obtain rfl : g = j := by simpa [Value.ownBlock] using ej
      rw [hgb] at hj; cases hj; rfl
  · refine ((Below.refl n₀ W).grown hgrow hn₀ fun j ej => ?_).setCell (p := ⟨B, 0, none⟩) hB v'
    rcases hrow.2 with ⟨rfl, _⟩ | ⟨g, cap, cur, rfl, hb, _, _⟩
    · simp [Value.ownBlock] at ej
    · obtain rfl : g = j := by simpa [Value.ownBlock] using ej
      exact hb
theorem one_new (W : World) (x : Value) (t : TypeId) : ∀ j u, [x][j]? = some u → (W.alloc (.cells #[x] t)).cell? ((⟨W.heap.size, 0, none⟩ : Addr).add j) = some u := fun j u hu => by
  rw [Addr.add_lit, Nat.zero_add, cell_of_row _ _ j #[x] t (0, 0) (heap_alloc_new W _)]
  simpa using hu
def LitPost (w : World) (base : Nat) (out b : List UInt8) (e : Ending) (w' : World) : Prop := ∃ A N c, e = .returned (.slice A N c) ∧ Ow w' base 5 A N c (bv (out ++ lits b)) ∧ Below base w w'
set_option maxRecDepth 100000 in
set_option maxHeartbeats 4000000 in
theorem literals_in (A A2 : Option Addr) (N c n c2 base C : Nat) (out b : List UInt8) (w : World) (ho : Ow w base 5 A N c (bv out)) (hb : Rd w C A2 n (bv b)) (hC : C ≤ base) (hbase : base ≤ w.heap.size) (hnc : n ≤ c2) (hn : n ≤ 1048576) (hN : N ≤ 1099511627776) :
    CallsIn Fence.wide 3 Tryd.prog 59 #[.slice A N c, .slice A2 n c2] w (LitPost w base out b) := by
  obtain ⟨i0, z0, hi, hz0, hz1, hz2, hz3⟩ := u8info
  have hbl : b.length = n := by rw [← hb.len, bv_len]
  have hol : out.length = N := by have := ho.len; rwa [bv_len] at this
  obtain ⟨g, off, hA⟩ : ∃ g off, 0 < n → A2 = some ⟨g, off, none⟩ := by
    rcases Nat.eq_zero_or_pos n with h | h
    · exact ⟨0, 0, fun h2 => by omega⟩
    · obtain ⟨g, off, e, _⟩ := hb.addr h
      exact ⟨g, off, fun _ => e⟩
  have hB0 : Below base w ((w.alloc (.cells #[.slice A N c] 24)).alloc (.cells #[.slice A2 n c2] 24)) := ((Below.refl base w).alloc hbase _).alloc (by simp; omega) _
  have c0 := Boxed.new w 24 (.slice A N c)
  have b0 := Boxed.new (w.alloc (.cells #[.slice A N c] 24)) 24 (.slice A2 n c2)
  simp only [World.size_alloc] at b0
  have hseq := pieces_stops Fence.wide 2 trivial rfl (by omega) (w.heap.size + 1) g off n c2 A2 hA hnc hn _ b0.cell
  have hrow0 : ((w.alloc (.cells #[.slice A N c] 24)).alloc (.cells #[.slice A2 n c2] 24)).ownsRow base 5 1 (.slice A N c) (out ++ told b ([] : List (Pc n))).length (bv (out ++ told b ([] : List (Pc n)))) := by
    have := (ho.alloc (.cells #[.slice A N c] 24)).alloc (.cells #[.slice A2 n c2] 24)
    have e1 : out ++ told b ([] : List (Pc n)) = out := by simp [told, idx]
    rw [e1, hol]
    exact this
  have hpc : ∀ (x : Pc n) (W : World), Below base w W → ∀ j u, (bv ((b.drop (128 * x.1)).take 128))[j]? = some u → W.cell? ((⟨g, off + 128 * x.1, none⟩ : Addr).add j) = some u := fun x W hW j u hu => by
    have hx := x.2
    have hr := hb.below hW hC
    obtain ⟨g2, off2, e, hg2, hcell⟩ := hr.addr (by omega)
    rw [hA (by omega)] at e
    injection e with e
    injection e with e1 e2 e3
    subst e1 e2
    have hj : j < ((b.drop (128 * x.1)).take 128).length := by
      rcases Nat.lt_or_ge j (bv ((b.drop (128 * x.1)).take 128)).length with h | h
      · rwa [bv_len] at h
      · rw [List.getElem?_eq_none h] at hu; cases hu
    rw [List.length_take, List.length_drop] at hj
    rw [Addr.add_lit, Nat.add_assoc, hcell (128 * x.1 + j) (by omega), ← hu, bv_take, bv_drop, List.getElem?_take_of_lt (by omega), List.getElem?_drop]
  have HSEQ := Lib.hid hseq
  have HB0 := Lib.hid hB0
  have HC := Lib.hid (And.intro c0 (And.intro b0 hrow0))
  have HPC := Lib.hid hpc
  have HL := Lib.hid (And.intro hbl hol)
  clear hseq hB0 c0 b0 hrow0 hpc ho hb hA hol
  refine callsIn_of_wp_marks Tryd.func59 rfl trivial ?_ rfl
  simp only [Tryd.ntmps59, List.size_toArray, List.length_cons, List.length_nil, Nat.reduceAdd, Nat.reduceSub, Array.replicate_succ, Array.replicate_zero, List.push_toArray, List.append_toArray, List.nil_append, List.cons_append]
  gi_wp2_with (first
    | (refine ⟨trivial, ?_⟩; gi_at_call 82; refine (pieces_in Fence.wide 2 trivial rfl _ _ _ _).mono ?_; rintro e w' ⟨rfl, rfl⟩)
    | fail)
  refine wpIn_rangeFunc_ownG (F := Fence.wide) (n := 3) rfl (by decide) (gf := 92) (lb := #[.pointer (some ⟨w.heap.size + 1, 0, none⟩)]) rfl trivial (enters_of Tryd.func92 (by kernel_rfl) rfl)
    HSEQ.out (fun h k => h.trans k) (KS1.put (by simp)) (Below.refl _ _) (fun _ => rfl)
    (fun pre W => ((∃ v, Boxed W w.heap.size 24 v ∧ W.ownsRow base 5 1 v (out ++ told b pre).length (bv (out ++ told b pre)) ∧ True) ∧ Boxed W (w.heap.size + 1) 24 (.slice A2 n c2)) ∧ Below base w W)
    (fun _ _ _ => False)
    (OwnFrom.and (Own.from (fun p X Y row hs hg hr => ⟨holdsRow_own base w.heap.size 24 5 1 (fun pre : List (Pc n) => (out ++ told b pre).length) (fun pre => bv (out ++ told b pre)) (fun _ _ => True) p X Y row hs.1 hg hr, boxed_own (w.heap.size + 1) 24 (fun _ : List (Pc n) => .slice A2 n c2) p X Y row hs.2 hg hr⟩) _) (ownFrom_below hbase (by simp; omega)))
    (fun _ _ _ _ _ hs _ _ => hs)
    ⟨⟨⟨_, HC.out.1.alloc _, HC.out.2.2, trivial⟩, HC.out.2.1⟩, HB0.out⟩
    (fun x => { tmps := #[.slice A N c, .slice A2 n c2, .pointer (some ⟨w.heap.size, 0, none⟩), undef, .slice none 0 0, pv g off n x.1, .slice A2 n c2, .func (.func 92) #[] #[.pointer (some ⟨w.heap.size + 1, 0, none⟩)], pv g off n x.1, undef, undef, undef, undef, undef, undef, undef, undef, undef, undef, undef], defers := [] }) ?assign ?body ?done ?stop
  case assign =>
    intro l x W K hK
    gi_wp2
    exact hK
  case body =>
    rintro l pre ⟨x, hx⟩ W ⟨⟨⟨v, hv, hrow, _⟩, hbx⟩, hB⟩ hlt
    have hc := hv.cell
    have hf := hv.frozen
    have hpl : 1 ≤ pl n x ∧ pl n x ≤ 128 := by unfold pl; omega
    have htl := told_len b pre
    have hcn : cnt n ≤ 8193 := by unfold cnt; omega
    have hlen : (out ++ told b pre).length ≤ 1099512800000 := by rw [List.length_append, HL.out.2]; omega
    have HPX := Lib.hid (HPC.out ⟨x, hx⟩)
    have hck : ck b x = UInt8.ofNat (pl n x - 1) :: (b.drop (128 * x)).take 128 := by unfold ck; rw [HL.out.1]
    have hts := told_snoc b pre ⟨x, hx⟩
    have hpn : ((b.drop (128 * x)).take 128).length = pl n x := by rw [List.length_take, List.length_drop, HL.out.1]; rfl
    rw [hck] at hts
    have HTS := Lib.hid (And.intro hts hpn)
    obtain ⟨P, hP⟩ : ∃ P, (b.drop (128 * x)).take 128 = P := ⟨_, rfl⟩
    unfold pv
    obtain ⟨q, hq⟩ : ∃ q, pl n x = q := ⟨_, rfl⟩
    simp only [hq, hP] at hpl HTS HPX ⊢
    obtain ⟨kk, hkk⟩ : ∃ kk, (out ++ told b pre).length = kk := ⟨_, rfl⟩
    rw [hkk] at hrow hlen
    have HKK := Lib.hid hkk
    have HB := Lib.hid hB
    have hbs := hB.size
    have hq1 : ((q : Int) - 1) = ((UInt8.ofNat (q - 1)).toNat : Int) := by
      have : (UInt8.ofNat (q - 1)).toNat = (q - 1) % 256 := by simp
      omega
    have HQ1 := Lib.hid hq1
    have hww : w.heap.size + 1 < W.heap.size := hbx.lt
    clear hq hP hck hts hpn htl hcn hkk hB hq1
    gi_wp2_with (first
      | (gi_at_builtin; refine wpListIn_append_own _ rfl (.tmp 9) (.tmp 14) 24 rfl base 5 i0 z0 1 1 Tryd.underlying24 hi hz0 hz1 hz2 hz3 (by decide) v kk _ rfl (hrow.alloc _) ⟨W.heap.size, 0, none⟩ 1 1 [.int .u8 ((q : Int) - 1)] rfl rfl (one_new W _ _) (one1 rfl) (by unfold maxLen; omega) (by omega) (by simp; omega) (fun v1 w1 hown1 hgrow1 _ => ?_); obtain ⟨hv1, hv2, hr2, hk2, hb2⟩ := Boxed.appended hv (by decide) hrow (Nat.le_trans hbase hbs) hbase hown1 hgrow1; have hbx1 := (hbx.alloc (.cells #[.int .u8 ((q : Int) - 1)] 5)).kept hgrow1 (hbx.not_row (by decide) hrow); obtain ⟨g1, cap1, rfl⟩ := ownsRow_succ hown1; have hbx2 := hbx1.other (B' := w.heap.size) (by omega) (.slice (some ⟨g1, 0, none⟩) (kk + 1) cap1); have hvc1 := hv1.cell; have hvf1 := hv1.frozen; have hvc2 := hv2.cell; have hvf2 := hv2.frozen; have hBB := HB.out.trans hb2; have hsz2 := hBB.size)
      | (gi_at_builtin; refine wpListIn_append_own _ rfl (.tmp 16) (.tmp 17) 24 rfl base 5 i0 z0 1 1 Tryd.underlying24 hi hz0 hz1 hz2 hz3 (by decide) _ (kk + 1) _ rfl hr2 ⟨g, off + 128 * x, none⟩ q q (bv P) rfl (by rw [bv_len, HTS.out.2, Nat.mul_one]) (HPX.out _ hBB) (bv_one _) (by unfold maxLen; omega) (by omega) (Nat.le_trans hbase hsz2) (fun v3 w3 hown3 hgrow3 _ => ?_); obtain ⟨hv3, hv4, hr4, hk4, hb4⟩ := Boxed.appended0 hv2 (by decide) hr2 (Nat.le_trans hbase hsz2) hbase hown3 hgrow3; have hbx3 := hbx2.kept hgrow3 (hbx2.not_row (by decide) hr2); obtain ⟨g3, cap3, rfl⟩ : ∃ g cap, v3 = .slice (some ⟨g, 0, none⟩) (kk + 1 + q) cap := (by have h9 := ownsRow_succ (k := kk + q) (by rw [show kk + q + 1 = kk + 1 + q by omega]; exact hown3); rwa [show kk + q + 1 = kk + 1 + q by omega] at h9); have hbx4 := hbx3.other (B' := w.heap.size) (by omega) (.slice (some ⟨g3, 0, none⟩) (kk + 1 + q) cap3); have hvc3 := hv3.cell; have hvf3 := hv3.frozen)
      | fail)
    have hk24 := hk2.trans hk4
    refine ⟨⟨hk24.size, fun k o _ hk ho => hk24.same k o hk ho⟩, ⟨hk24.size, fun k hk hs => ?_⟩, ⟨⟨_, hv4, ?_, trivial⟩, hbx4⟩, hBB.trans hb4⟩
    · subst hs
      exact hbx4.trans hbx.symm
    · have e1 : (out ++ told b (pre ++ [⟨x, hx⟩])).length = kk + 1 + q := by
        rw [HTS.out.1, ← List.append_assoc, List.length_append, HKK.out, List.length_cons, HTS.out.2]
        omega
      have e2 : bv (out ++ told b (pre ++ [⟨x, hx⟩])) = bv (out ++ told b pre) ++ [Value.int .u8 ((q : Int) - 1)] ++ bv P := by
        rw [HTS.out.1, ← List.append_assoc, bv_app, List.append_assoc (bv (out ++ told b pre)), HQ1.out]
        rfl
      rw [e1, e2]
      exact hr4
  case done =>
    rintro D ys W hD hys ⟨⟨⟨v, hv, hrow, _⟩, hbx⟩, hB⟩ hK
    have hc := hv.cell
    have htold : told b ys = lits b := by
      have := HL.out.1
      subst this
      exact told_all b ys hys
    rw [htold] at hrow
    have hsl : ∃ A N c, v = .slice A N c ∧ W.ownsRow base 5 1 (.slice A N c) N (bv (out ++ lits b)) := by
      rcases hrow.2 with ⟨rfl, h0⟩ | ⟨g, cap, cur, rfl, _⟩
      · exact ⟨none, 0, 0, rfl, by rw [h0] at hrow; exact hrow⟩
      · exact ⟨_, _, _, rfl, hrow⟩
    obtain ⟨A3, N3, c3, rfl, hrow3⟩ := hsl
    have hfin := ownsRow_putObj hrow3 (.deferred none) hK rfl
    have hbf := hB.trans (belowK_b (w := w) hbase W D _ (.deferred none) (by simp at hD; omega) hK rfl rfl)
    have HF := Lib.hid (And.intro hfin hbf)
    clear hrow hrow3 hfin hbf hv hbx
    gi_wp2
    refine ⟨by simp, .inl ⟨_, _, rfl, run_takeDeferred hK, ?_⟩⟩
    exact ⟨_, results_tmp rfl _ _ _, A3, N3, c3, rfl, HF.out.1, HF.out.2⟩
  case stop =>
    rintro D c pre W _ _ h _
    exact h.elim
theorem literals_any (A A2 : Option Addr) (N c n c2 base C : Nat) (out b : List UInt8) (w : World) (ho : Ow w base 5 A N c (bv out)) (hb : Rd w C A2 n (bv b)) (hC : C ≤ base) (hbase : base ≤ w.heap.size) (hnc : n ≤ c2) (hn : n ≤ 1048576) (hN : N ≤ 1099511627776) :
    Calls Tryd.prog 59 #[.slice A N c, .slice A2 n c2] w (LitPost w base out b) := callsIn_wide.1 (literals_in A A2 N c n c2 base C out b w ho hb hC hbase hnc hn hN)
end Go.Proofs.YtbcgnacfhpahkaaDoor.lz
