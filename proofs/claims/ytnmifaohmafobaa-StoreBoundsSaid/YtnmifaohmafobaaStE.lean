/- A row: the chunk that rested longest and is not held; what is held. -/
import Derived.Test.YtnmifaohmafobaaStD
namespace Go.Proofs.Ytnmifaohmafobaa.st
open Go.RowKit Go.Shelf Mem SM
set_option linter.unusedVariables false
attribute [local go_sem] Oper.semAt_some
theorem cell_of_box {W : World} {B : Nat} {v : Value} {t : TypeId} (h : W.heap[B]? = some (.cells #[v] t (0, 0))) : W.cell? ⟨B, 0, none⟩ = some v ∧ W.frozen? ⟨B, 0, none⟩ = false := by
  constructor <;> simp [World.cell?, World.frozen?, h]
theorem cell_new1 (W : World) (v : Value) (t : TypeId) : (W.alloc (.cells #[v] t)).cell? ⟨W.heap.size, 0, none⟩ = some v ∧ (W.alloc (.cells #[v] t)).frozen? ⟨W.heap.size, 0, none⟩ = false :=
  cell_of_box (World.alloc_heap_new W _)
theorem cell_past {W : World} {a : Addr} {v : Value} (o : Obj) (h : W.cell? a = some v) : (W.alloc o).cell? a = some v := cell_kept h (World.grownBy_alloc W o none) (fun r e => by cases e)
theorem frozen_past {W : World} {a : Addr} {v : Value} (o : Obj) (h : W.cell? a = some v) (hf : W.frozen? a = false) : (W.alloc o).frozen? a = false := (frozen_kept h (World.grownBy_alloc W o none) (fun r e => by cases e)).trans hf
theorem wpListIn_load_mid {F : Fence} {n : Nat} {P : Program} {ops : Array Oper} {rest : List Oper} {op : Oper} {a : Act} {w : World} {Q : Exit → Act → World → Prop} (hgd : op.guard = none) (ty : TypeId) (x : Operand) (ho : op.op = .load ty x)
    (b o : Nat) (hx : a.eval x = .pointer (some ⟨b, o, none⟩)) (cs : List Value) (d : TypeDesc) (hc : w.rangeAt b o cs)
    (hu : P.underlying ty = some d) (hd : d.isRow = true) (hi : (P.info? ty).map (·.size) = some cs.length)
    (h : wpListIn F n P ops Q rest (a.put op.dst (.agg cs.toArray)) w) : wpListIn F n P ops Q (op :: rest) a w := by
  refine wpListIn_plain hgd fun K hK' => ?_
  unfold Oper.wpIn
  refine ⟨?_, ?_⟩
  · simp [Oper.about, ho]
  · rw [Oper.semAt_plain F _ _ (by rw [ho]; intro c hc'; cases hc')]
    simp only [execOp, ho, hx, Instr.loadAt, Instr.sureAddr, Sem.run_bind, Sem.run_pure, Result.andThen_ok, run_loadVar_mid w b o ty cs d hc hu hd hi]
    exact hK' _ _ h
theorem wpListIn_store_mid {F : Fence} {n : Nat} {P : Program} {ops : Array Oper} {rest : List Oper} {op : Oper} {a : Act} {w : World} {Q : Exit → Act → World → Prop} (hgd : op.guard = none) (ty : TypeId) (x y : Operand) (ho : op.op = .store ty x y)
    (b o : Nat) (cells : Array Value) (hx : a.eval x = .pointer (some ⟨b, o, none⟩)) (hy : a.eval y = .agg cells)
    (ht : w.there b o cells.size) (hi : (P.info? ty).map (·.size) = some cells.size) (h1 : cells.all (·.oneCell') = true)
    (h : wpListIn F n P ops Q rest (a.put op.dst undef) (w.setCells b o cells.toList)) : wpListIn F n P ops Q (op :: rest) a w := by
  refine wpListIn_plain hgd fun K hK' => ?_
  unfold Oper.wpIn
  refine ⟨?_, ?_⟩
  · simp [Oper.about, ho]
  · rw [Oper.semAt_plain F _ _ (by rw [ho]; intro c hc'; cases hc')]
    simp only [execOp, ho, hx, hy, Instr.storeAt, Instr.sureAddr, Sem.run_bind, Sem.run_pure, Result.andThen_ok, run_storeVar_mid w b o ty cells ht hi h1]
    exact hK' _ _ h
theorem there_fresh (W : World) (Z : Array Value) (t : TypeId) (n : Nat) (hn : n ≤ Z.size) : (W.alloc (.cells Z t)).there W.heap.size 0 n := fun j hj => by
  have hb := heap_alloc_new W (.cells Z t)
  rw [Nat.zero_add]
  refine ⟨?_, frozen_of_row _ _ j Z t hb⟩
  rw [cell_of_row _ _ j Z t (0, 0) hb]
  have : j < Z.size := by omega
  simp [this]
theorem below_setCells {B b : Nat} (hb : B ≤ b) : ∀ (vs : List Value) (o : Nat) (w : World), Below B w (w.setCells b o vs)
  | [], _, w => Below.refl _ _
  | v :: vs, o, w => by
    rw [World.setCells]
    exact ((Below.refl B w).setCell (p := ⟨b, o, none⟩) hb v).trans (below_setCells hb vs (o + 1) _)
theorem others_setCells (b : Nat) : ∀ (vs : List Value) (o : Nat) (w : World), KeepsOthers w (w.setCells b o vs)
  | [], _, w => KeepsOthers.refl _
  | v :: vs, o, w => by
    rw [World.setCells]
    exact (KeepsOthers.setCell _ _ _).trans (others_setCells b vs (o + 1) _)
theorem kept_setCells (b : Nat) : ∀ (vs : List Value) (o : Nat) (w : World), Kept w (w.setCells b o vs) (fun k => k = b)
  | [], _, w => Kept.refl _ _
  | v :: vs, o, w => by
    rw [World.setCells]
    exact (Kept.set w b o v).trans (kept_setCells b vs (o + 1) _) (fun _ _ e => e)
/-- many cells go into a block that has just been made -/
theorem wpListIn_store_new {F : Fence} {n : Nat} {P : Program} {ops : Array Oper} {rest : List Oper} {op : Oper} {a : Act} {W : World} {Z : Array Value} {t : TypeId} {Q : Exit → Act → World → Prop} (hgd : op.guard = none) (ty : TypeId) (x y : Operand) (ho : op.op = .store ty x y)
    (CK : List Value) (hx : a.eval x = .pointer (some ⟨W.heap.size, 0, none⟩)) (hy : a.eval y = .agg CK.toArray) (hz : CK.length ≤ Z.size) (hi : (P.info? ty).map (·.size) = some CK.length) (h1 : ∀ v ∈ CK, v.oneCell' = true)
    (h : ∀ W2, (∀ i v, CK[i]? = some v → W2.cell? ⟨W.heap.size, i, none⟩ = some v) → Below W.heap.size W W2 → KeepsOthers W W2 → wpListIn F n P ops Q rest (a.put op.dst undef) W2) : wpListIn F n P ops Q (op :: rest) a (W.alloc (.cells Z t)) := by
  refine wpListIn_store_mid hgd ty x y ho W.heap.size 0 CK.toArray hx hy (there_fresh W Z t _ (by simpa using hz)) (by simpa using hi) (all_oneCell_toArray h1) (h _ (fun i v hv => ?_) ?_ ?_)
  · have := World.rangeAt_setCells_same (W.alloc (.cells Z t)) W.heap.size 0 CK (there_fresh W Z t _ hz) i v hv
    rw [Nat.zero_add] at this
    exact this
  · exact ((Below.refl _ W).alloc (Nat.le_refl _) _).trans (below_setCells (Nat.le_refl _) _ _ _)
  · exact (KeepsOthers.alloc _ _).trans (others_setCells _ _ _ _)
variable {O : Nat → Prop} {r g M mb fc : Nat} {FA : Option Addr} {E : Nat → Ent} {D : Nat → Sl} {ns fs : List Nat}
/-- the number of the chunk that goes next, or 0 -/
def idleN (E : Nat → Ent) (ns : List Nat) : Nat := (ns.find? (fun n => (E n).held == 0)).getD 0
set_option maxRecDepth 100000 in
set_option maxHeartbeats 2000000 in
theorem idle_in (F : Fence) (n : Nat) (h4 : F.fn 50) (h5 : F.fn 52) (h6 : F.fn 55) (hro : F.round = none) (hn : 3 ≤ n) (w : World) (h : RowB w O r g M mb FA fc E D ns fs) :
    CallsIn F n Try.prog 50 #[.pointer (some ⟨r, 0, none⟩)] w fun e W' => e = .returned (.int .i64 (idleN E ns : Nat)) ∧ Below w.heap.size w W' := by
  have h1 : 1 ≤ n := by omega
  obtain ⟨lr, lg, lm⟩ := h.lt
  have hM := h.mle.2
  have hB0 : Below w.heap.size w (((w.alloc (.cells #[.pointer (some ⟨r, 0, none⟩)] 62)).alloc (.cells #[.int .i64 0] 3)).alloc (.cells #[.pointer (some ⟨r, 0, none⟩)] 62)) := (((Below.refl _ w).alloc (Nat.le_refl _) _).alloc (by simp) _).alloc (by simp; omega) _
  have c0 := cell_new1 w (.pointer (some ⟨r, 0, none⟩)) 62
  have c1 := cell_new1 (w.alloc (.cells #[.pointer (some ⟨r, 0, none⟩)] 62)) (.int .i64 0) 3
  have c2 := cell_new1 ((w.alloc (.cells #[.pointer (some ⟨r, 0, none⟩)] 62)).alloc (.cells #[.int .i64 0] 3)) (.pointer (some ⟨r, 0, none⟩)) 62
  simp only [World.size_alloc] at c1 c2
  obtain ⟨k0, k1, k2, k3⟩ := h.cur
  have hseq := order_stops F (n - 1) h6 hro (by omega) (w.heap.size + 1 + 1) r g M k0 hM ns _ c2.1 ((hB0.cell (p := ⟨r, 0, none⟩) lr).trans k1) ((hB0.cell (p := ⟨g, 35, none⟩) lg).trans k2) (k3.below lg hB0)
  have hrow : ∀ x W, x ≤ M → Below w.heap.size w W → W.cell? ⟨r, 0, none⟩ = some (.slice (some ⟨g, 0, none⟩) (M + 1) (M + 1)) ∧ W.cell? ⟨g, x * 36 + 33, none⟩ = some (.int .i64 ((E x).held : Nat)) := fun x W hx hb =>
    ⟨(hb.cell (p := ⟨r, 0, none⟩) lr).trans k1, (hb.cell (p := ⟨g, x * 36 + 33, none⟩) lg).trans (h.hd x hx)⟩
  have HROW := Lib.hid hrow
  have HSEQ := Lib.hid hseq
  have HB0 := Lib.hid hB0
  have HC := Lib.hid (And.intro c0 (And.intro c1 c2))
  clear h hB0 hseq hrow c0 c1 c2 k1 k2 k3
  refine callsIn_of_wp_marks Try.func50 rfl h4 ?_ hro
  simp only [Try.ntmps50, List.size_toArray, List.length_cons, List.length_nil, Nat.reduceAdd, Nat.reduceSub, Array.replicate_succ, Array.replicate_zero, List.push_toArray, List.append_toArray, List.nil_append, List.cons_append]
  gi_wp2_with (gi_at_call 52; refine (order_in F (n - 1) h5 hro _ _).mono ?_; rintro e w' ⟨rfl, rfl⟩)
  refine wpIn_rangeFunc_ownF hro h1 (gf := 55) (lb := #[.pointer (some ⟨w.heap.size + 1 + 1, 0, none⟩)]) rfl h6 (enters_of Try.func55 (by kernel_rfl) rfl)
    HSEQ.out (fun h k => h.trans k) (KS.put (by simp) (by simp; omega) (by simp; omega)) (Below.refl _ _) (fun _ => rfl)
    (fun pre W => ((∀ y ∈ nums pre, (E y).held ≠ 0) ∧ W.cell? ⟨w.heap.size, 0, none⟩ = some (.pointer (some ⟨r, 0, none⟩)) ∧ W.cell? ⟨w.heap.size + 1, 0, none⟩ = some (.int .i64 0) ∧ W.frozen? ⟨w.heap.size + 1, 0, none⟩ = false) ∧ Below w.heap.size w W)
    (fun c pre W => (c = .ret ∧ (∃ p y, nums pre = p ++ [y] ∧ (∀ z ∈ p, (E z).held ≠ 0) ∧ (E y).held = 0 ∧ W.cell? ⟨w.heap.size + 1, 0, none⟩ = some (.int .i64 (y : Nat)))) ∧ Below w.heap.size w W)
    (OwnFrom.and (Own.from (fun s A B row hs hg hr => ⟨hs.1, cell_kept hs.2.1 hg hr, cell_kept hs.2.2.1 hg hr, (frozen_kept hs.2.2.1 hg hr).trans hs.2.2.2⟩) _) (ownFrom_below (Nat.le_refl _) (by simp; omega)))
    (fun c => OwnFrom.and (Own.from (fun s A B row hs hg hr => ⟨hs.1, by obtain ⟨p, y, a1, a2, a3, a4⟩ := hs.2; exact ⟨p, y, a1, a2, a3, cell_kept a4 hg hr⟩⟩) _) (ownFrom_below (Nat.le_refl _) (by simp; omega)))
    ⟨⟨(fun y hy => by simp [nums] at hy), cell_past _ (cell_past _ HC.out.1.1), cell_past _ HC.out.2.1.1, frozen_past _ HC.out.2.1.1 HC.out.2.1.2⟩, HB0.out⟩
    (fun x => { tmps := #[.pointer (some ⟨r, 0, none⟩), .pointer (some ⟨w.heap.size, 0, none⟩), .pointer (some ⟨w.heap.size + 1, 0, none⟩), .int .i64 (x.1 : Nat), .pointer (some ⟨r, 0, none⟩), .func (.func 55) #[] #[.pointer (some ⟨w.heap.size + 1 + 1, 0, none⟩)], .int .i64 (x.1 : Nat), undef, undef, undef, undef, undef, undef, undef, undef, undef, undef], defers := [] }) ?assign ?body ?done ?stop
  case assign =>
    intro l x W K hK
    gi_wp2
    exact hK
  case body =>
    rintro l pre ⟨x, hx⟩ W ⟨⟨hp, hcr, hcz, hfz⟩, hB⟩ _
    obtain ⟨e1, e2⟩ := HROW.out x W hx hB
    have hlt : (x : Int) < ((M + 1 : Nat) : Int) := by omega
    have HBB := Lib.hid hB
    clear hB
    by_cases hz : (E x).held = 0
    · rw [hz] at e2
      gi_wp2
      refine ⟨KeepsOthers.setCell _ _ _, ⟨rfl, nums pre, x, nums_snoc _ _, hp, hz, World.cell?_setCell_same' _ _ _ (by rw [hcz]; rfl)⟩, HBB.out.setCell (p := ⟨w.heap.size + 1, 0, none⟩) (by simp) _⟩
    · have hzz : (((E x).held : Int) == 0) = false := by simp; omega
      gi_wp2
      refine ⟨KeepsOthers.refl _, ⟨Nat.le_refl _, fun _ _ _ => rfl⟩, ⟨?_, hcr, hcz, hfz⟩, HBB.out⟩
      intro y hy
      rw [nums_snoc] at hy
      rcases List.mem_append.1 hy with hy | hy
      · exact hp y hy
      · rw [List.mem_singleton.1 hy]; exact hz
  case done =>
    rintro D ys W hD hys ⟨⟨hne, _, hcz, hfz⟩, hB⟩ hK
    have hidle : idleN E ns = 0 := by
      unfold idleN
      rw [List.find?_eq_none.2 (fun y hy => by rw [← hys] at hy; simpa using hne y hy)]
      rfl
    have HID := Lib.hid hidle
    clear hidle
    gi_wp2
    have hK' := (KeepsOthers.setCell W ⟨w.heap.size + 1, 0, none⟩ (.int .i64 0)).same D _ hK rfl
    refine ⟨by simp, .inl ⟨_, _, rfl, run_takeDeferred hK', ?_⟩⟩
    have hc5 := cell_kept (World.cell?_setCell_same' W ⟨w.heap.size + 1, 0, none⟩ (.int .i64 0) (by rw [hcz]; rfl)) (grownBy_putObj' _ D (.deferred none)) (fun r e => by cases e; exact ⟨_, hK', rfl⟩)
    refine ⟨.int .i64 0, ?_, by rw [HID.out]; rfl, (hB.setCell (p := ⟨w.heap.size + 1, 0, none⟩) (by simp) _).trans (belowK_b (w := w) (Nat.le_refl _) _ D _ _ (by simp at hD; omega) hK' rfl rfl)⟩
    simp [results, Try.f50, go_sem, hc5]
  case stop =>
    rintro D c pre W hD hpre ⟨⟨rfl, p, y, hpy, hpz, hyz, hcr⟩, hB⟩ hK
    have hidle : idleN E ns = y := by
      unfold idleN
      rw [hpy] at hpre
      obtain ⟨t, ht⟩ := hpre
      rw [← ht, List.append_assoc, List.find?_append, List.find?_eq_none.2 (fun z hz => by simpa using hpz z hz)]
      simp [hyz]
    have HID := Lib.hid hidle
    clear hidle
    gi_wp2
    refine ⟨by simp, .inl ⟨_, _, rfl, run_takeDeferred hK, ?_⟩⟩
    have hc5 := cell_kept hcr (grownBy_putObj' _ D (.deferred none)) (fun r e => by cases e; exact ⟨_, hK, rfl⟩)
    refine ⟨.int .i64 (y : Nat), ?_, by rw [HID.out], hB.trans (belowK_b (w := w) (Nat.le_refl _) W D _ _ (by simp at hD; omega) hK rfl rfl)⟩
    simp [results, Try.f50, go_sem, hc5]
theorem idle_any (w : World) (h : RowB w O r g M mb FA fc E D ns fs) :
    Calls Try.prog 50 #[.pointer (some ⟨r, 0, none⟩)] w fun e W' => e = .returned (.int .i64 (idleN E ns : Nat)) ∧ Below w.heap.size w W' :=
  callsIn_wide.1 (idle_in Fence.wide 3 trivial trivial trivial rfl (Nat.le_refl _) w h)
#print axioms idle_any
theorem hk_drew {W : World} {D : Nat} {x : Option Obj} (h : W.heap[D]? = x) : W.drew.heap[D]? = x := h
theorem hk_set {W : World} {D : Nat} {a : Addr} {v : Value} (h : W.heap[D]? = some (.deferred (some []))) : (W.setCell a v).heap[D]? = some (.deferred (some [])) := (KeepsOthers.setCell W a v).same D _ h rfl
/-- a chunk's cells -/
def ckL (e : Ent) (d : Sl) (a b : Nat) : List Value := bv e.sum ++ [.slice d.a d.n d.c, .int .i64 (e.held : Nat), .int .i64 (a : Nat), .int .i64 (b : Nat)]
theorem ckL_len (e : Ent) (d : Sl) (a b : Nat) (h : e.sum.length = 32) : (ckL e d a b).length = 36 := by simp [ckL, bv_len, h]
theorem RowB.chunk {w : World} (h : RowB w O r g M mb FA fc E D ns fs) {x : Nat} (hx : x ≤ M) : ∃ a b : Nat, w.rangeAt g (x * 36) (ckL (E x) (D x) a b) := by
  obtain ⟨ah, bh, hl, _⟩ := h.link
  have hlen := h.len x hx
  refine ⟨ah x, bh x, fun j v hv => ?_⟩
  unfold ckL at hv
  by_cases hj : j < 32
  · rw [List.getElem?_append_left (by rw [bv_len]; omega)] at hv
    exact h.sm x hx j v hv
  · rw [List.getElem?_append_right (by rw [bv_len]; omega), bv_len, hlen] at hv
    have hj2 : j < 36 := by
      have := (List.getElem?_eq_some_iff.1 hv).1
      simp at this; omega
    obtain rfl | rfl | rfl | rfl : j = 32 ∨ j = 33 ∨ j = 34 ∨ j = 35 := by omega
    · simp at hv; rw [← hv]; exact h.dc x hx
    · simp at hv; rw [← hv]; exact h.hd x hx
    · simp at hv; rw [← hv]; exact hl.ah x hx
    · simp at hv; rw [← hv]; exact hl.bh x hx
theorem info_chunk : (Try.prog.info? 73).map (·.size) = some 36 := by kernel_rfl
set_option maxRecDepth 100000 in
set_option maxHeartbeats 2000000 in
theorem fixed_in (F : Fence) (n : Nat) (h4 : F.fn 49) (h5 : F.fn 52) (h6 : F.fn 55) (hro : F.round = none) (hn : 3 ≤ n) (w : World) (h : RowB w O r g M mb FA fc E D ns fs) (hT : total (ns.map E) ≤ 8192) :
    CallsIn F n Try.prog 49 #[.pointer (some ⟨r, 0, none⟩)] w fun e W' => e = .returned (.tuple #[.int .i64 (fixedN (ns.map E) : Nat), .int .i64 (fixedS (ns.map E) : Nat)]) ∧ Below w.heap.size w W' := by
  have h1 : 1 ≤ n := by omega
  obtain ⟨lr, lg, lm⟩ := h.lt
  have hM := h.mle.2
  have hB0 : Below w.heap.size w ((((w.alloc (.cells #[.pointer (some ⟨r, 0, none⟩)] 62)).alloc (.cells #[.int .i64 0] 3)).alloc (.cells #[.int .i64 0] 3)).alloc (.cells #[.pointer (some ⟨r, 0, none⟩)] 62)) := ((((Below.refl _ w).alloc (Nat.le_refl _) _).alloc (by simp) _).alloc (by simp; omega) _).alloc (by simp; omega) _
  have c0 := cell_new1 w (.pointer (some ⟨r, 0, none⟩)) 62
  have c1 := cell_new1 (w.alloc (.cells #[.pointer (some ⟨r, 0, none⟩)] 62)) (.int .i64 0) 3
  have c2 := cell_new1 ((w.alloc (.cells #[.pointer (some ⟨r, 0, none⟩)] 62)).alloc (.cells #[.int .i64 0] 3)) (.int .i64 0) 3
  have c3 := cell_new1 (((w.alloc (.cells #[.pointer (some ⟨r, 0, none⟩)] 62)).alloc (.cells #[.int .i64 0] 3)).alloc (.cells #[.int .i64 0] 3)) (.pointer (some ⟨r, 0, none⟩)) 62
  simp only [World.size_alloc] at c1 c2 c3
  obtain ⟨k0, k1, k2, k3⟩ := h.cur
  have hseq := order_stops F (n - 1) h6 hro (by omega) (w.heap.size + 1 + 1 + 1) r g M k0 hM ns _ c3.1 ((hB0.cell (p := ⟨r, 0, none⟩) lr).trans k1) ((hB0.cell (p := ⟨g, 35, none⟩) lg).trans k2) (k3.below lg hB0)
  have HSEQ := Lib.hid hseq
  have HB0 := Lib.hid hB0
  have HH := Lib.hid h
  have HC := Lib.hid (And.intro c0 (And.intro c1 (And.intro c2 c3)))
  clear h hB0 hseq c0 c1 c2 c3 k1 k2 k3
  refine callsIn_of_wp_marks Try.func49 rfl h4 ?_ hro
  simp only [Try.ntmps49, List.size_toArray, List.length_cons, List.length_nil, Nat.reduceAdd, Nat.reduceSub, Array.replicate_succ, Array.replicate_zero, List.push_toArray, List.append_toArray, List.nil_append, List.cons_append]
  gi_wp2_with (gi_at_call 52; refine (order_in F (n - 1) h5 hro _ _).mono ?_; rintro e w' ⟨rfl, rfl⟩)
  refine wpIn_rangeFunc_ownF hro h1 (gf := 55) (lb := #[.pointer (some ⟨w.heap.size + 1 + 1 + 1, 0, none⟩)]) rfl h6 (enters_of Try.func55 (by kernel_rfl) rfl)
    HSEQ.out (fun h k => h.trans k) (KS.put (by simp) (by simp; omega) (by simp; omega)) (Below.refl _ _) (fun _ => rfl)
    (fun pre W => (W.cell? ⟨w.heap.size, 0, none⟩ = some (.pointer (some ⟨r, 0, none⟩)) ∧ W.cell? ⟨w.heap.size + 1, 0, none⟩ = some (.int .i64 (fixedN ((nums pre).map E) : Nat)) ∧ W.frozen? ⟨w.heap.size + 1, 0, none⟩ = false ∧ W.cell? ⟨w.heap.size + 1 + 1, 0, none⟩ = some (.int .i64 (fixedS ((nums pre).map E) : Nat)) ∧ W.frozen? ⟨w.heap.size + 1 + 1, 0, none⟩ = false) ∧ Below w.heap.size w W)
    (fun c pre W => False)
    (OwnFrom.and (Own.from (fun s A B row hs hg hr => ⟨cell_kept hs.1 hg hr, cell_kept hs.2.1 hg hr, (frozen_kept hs.2.1 hg hr).trans hs.2.2.1, cell_kept hs.2.2.2.1 hg hr, (frozen_kept hs.2.2.2.1 hg hr).trans hs.2.2.2.2⟩) _) (ownFrom_below (Nat.le_refl _) (by simp; omega)))
    (fun _ _ _ _ _ hs _ _ => hs)
    ⟨⟨cell_past _ (cell_past _ (cell_past _ HC.out.1.1)), cell_past _ (cell_past _ HC.out.2.1.1), frozen_past _ (cell_past _ HC.out.2.1.1) (frozen_past _ HC.out.2.1.1 HC.out.2.1.2), cell_past _ HC.out.2.2.1.1, frozen_past _ HC.out.2.2.1.1 HC.out.2.2.1.2⟩, HB0.out⟩
    (fun x => { tmps := #[.pointer (some ⟨r, 0, none⟩), .pointer (some ⟨w.heap.size, 0, none⟩), .pointer (some ⟨w.heap.size + 1, 0, none⟩), .pointer (some ⟨w.heap.size + 1 + 1, 0, none⟩), .int .i64 (x.1 : Nat), undef, .pointer (some ⟨r, 0, none⟩), .func (.func 55) #[] #[.pointer (some ⟨w.heap.size + 1 + 1 + 1, 0, none⟩)], .int .i64 (x.1 : Nat), undef, undef, undef, undef, undef, undef, undef, undef, undef, undef, undef, undef, undef, undef, undef, undef, undef, undef, undef], defers := [] }) ?assign ?body ?done ?stop
  case assign =>
    intro l x W K hK
    gi_wp2
    exact hK
  case body =>
    rintro l pre ⟨x, hx⟩ W ⟨⟨hcr, hca, hfa, hcb, hfb⟩, hB⟩ hlen
    have hlt : (x : Int) < ((M + 1 : Nat) : Int) := by omega
    have hRW := HH.out.below hB
    obtain ⟨q0, q1, _⟩ := hRW.cur
    obtain ⟨ca, cb, hck⟩ := hRW.chunk hx
    have hcl := ckL_len (E x) (D x) ca cb (HH.out.len x hx)
    have hc33 : (ckL (E x) (D x) ca cb)[33]? = some (.int .i64 ((E x).held : Nat)) := by
      unfold ckL; rw [List.getElem?_append_right (by rw [bv_len, HH.out.len x hx]; omega), bv_len, HH.out.len x hx]; rfl
    have hc32 : (ckL (E x) (D x) ca cb)[32]? = some (.slice (D x).a (D x).n (D x).c) := by
      unfold ckL; rw [List.getElem?_append_right (by rw [bv_len, HH.out.len x hx]; omega), bv_len, HH.out.len x hx]; rfl
    obtain ⟨CK, hCK⟩ : ∃ CK, ckL (E x) (D x) ca cb = CK := ⟨_, rfl⟩
    rw [hCK] at hck hcl hc33 hc32
    have hone : ∀ v ∈ CK, v.oneCell' = true := by
      rw [← hCK]; unfold ckL
      intro v hv
      rcases List.mem_append.1 hv with hv | hv
      · exact bv_one _ v hv
      · simp at hv; rcases hv with rfl | rfl | rfl | rfl <;> rfl
    have HONE := Lib.hid hone
    have HCK := Lib.hid hck
    have l0 := cell_lt hcr
    have l1 := cell_lt hca
    have l2 := cell_lt hcb
    have hnp : (nums pre).length ≤ 64 := by
      have := HH.out.count
      simp [nums]; omega
    have hs2 : fixedN ((nums pre).map E) ≤ 64 := Nat.le_trans (fixedN_le _) (by simpa using hnp)
    have hs1 : fixedS ((nums pre).map E) ≤ 524288 := Nat.le_trans (fixedS_le 8192 _ (fun e he => by
      obtain ⟨y, hy, rfl⟩ := List.mem_map.1 he
      obtain ⟨z, _, rfl⟩ := List.mem_map.1 hy
      exact HH.out.dm z.1 z.2)) (by rw [List.length_map]; omega)
    have hdn : (D x).n = (E x).data.length := by have := (HH.out.dr x hx).len; rw [bv_len] at this; exact this.symm
    have hs3 : (D x).n ≤ 8192 := by rw [hdn]; exact HH.out.dm x hx
    have HDN := Lib.hid hdn
    clear hdn hnp
    clear hone
    have HBB := Lib.hid hB
    clear hck hRW hB hCK
    gi_wp2_with (first
      | (refine wpListIn_load_mid rfl 73 (.tmp 14) rfl g (x * 36) rfl CK _ HCK.out Try.underlying73 rfl (by rw [hcl]; exact info_chunk) ?_)
      | (refine wpListIn_store_new rfl 73 (.tmp 5) (.tmp 15) rfl CK rfl rfl (by simp [hcl]) (by rw [hcl]; exact info_chunk) HONE.out ?_; intro W2 hc2 hb2 hk2; have d33 := hc2 33 _ hc33; have d32 := hc2 32 _ hc32; have g1 := (hb2.cell (p := ⟨w.heap.size + 1, 0, none⟩) (by omega)).trans hca; have g2 := (hb2.cell (p := ⟨w.heap.size + 1 + 1, 0, none⟩) (by omega)).trans hcb; have z1 := (hb2.frozen (p := ⟨w.heap.size + 1, 0, none⟩) (by omega)).trans hfa; have z2 := (hb2.frozen (p := ⟨w.heap.size + 1 + 1, 0, none⟩) (by omega)).trans hfb; have H2 := Lib.hid (And.intro hb2 hk2); clear hc2 hb2 hk2)
      | fail)
    · have hp : 0 < (E x).held := by assumption
      obtain ⟨hb2, hk2⟩ := H2.out
      have hsz := hb2.size
      refine ⟨hk2.trans ((KeepsOthers.setCell _ _ _).trans (KeepsOthers.setCell _ _ _)), ?_, ?_, ?_⟩
      · refine KS.of (bad := fun k => W.heap.size ≤ k ∨ k = w.heap.size + 1 ∨ k = w.heap.size + 1 + 1) ((((Kept.ofBelow hb2).more (fun i _ e => Or.inl e)).trans ((Kept.set W2 (w.heap.size + 1) 0 _).more (fun i _ e => Or.inr (Or.inl e))) (fun _ _ e => e)).trans ((Kept.set _ (w.heap.size + 1 + 1) 0 _).more (fun i _ e => Or.inr (Or.inr e))) (fun _ _ e => e)) (fun k hk hs e => ?_)
        omega
      · have n1 := fixedN_snoc ((nums pre).map E) (E x)
        have n2 := fixedS_snoc ((nums pre).map E) (E x)
        rw [if_pos hp] at n1 n2
        have hcr2 := (hb2.cell (p := ⟨w.heap.size, 0, none⟩) l0).trans hcr
        refine ⟨?_, ?_, ?_, ?_, ?_⟩
        · rw [World.cell?_setCell_other _ _ _ _ (ne_blk (by omega)), World.cell?_setCell_other _ _ _ _ (ne_blk (by omega))]; exact hcr2
        · rw [World.cell?_setCell_other _ _ _ _ (ne_blk (by omega)), nums_snoc, List.map_append, List.map_singleton, n1]
          exact World.cell?_setCell_same _ _ _ g1
        · rw [frozen_set, frozen_set]; exact z1
        · rw [nums_snoc, List.map_append, List.map_singleton, n2, World.cell?_setCell_same _ _ _ (by rw [World.cell?_setCell_other _ _ _ _ (ne_blk (by omega))]; exact g2), HDN.out]
          go_num
        · rw [frozen_set, frozen_set]; exact z2
      · exact ((HBB.out.trans (hb2.mono (by omega))).setCell (p := ⟨w.heap.size + 1, 0, none⟩) (by simp) _).setCell (p := ⟨w.heap.size + 1 + 1, 0, none⟩) (by simp; omega) _
    · have hp : ¬ 0 < (E x).held := by assumption
      obtain ⟨hb2, hk2⟩ := H2.out
      have hsz := hb2.size
      have n1 := fixedN_snoc ((nums pre).map E) (E x)
      have n2 := fixedS_snoc ((nums pre).map E) (E x)
      rw [if_neg hp] at n1 n2
      refine ⟨hk2, KS.of (Kept.ofBelow hb2) (fun k hk hs e => by omega), ⟨(hb2.cell (p := ⟨w.heap.size, 0, none⟩) l0).trans hcr, ?_, z1, ?_, z2⟩, HBB.out.trans (hb2.mono (by omega))⟩
      · rw [nums_snoc, List.map_append, List.map_singleton, n1]; exact g1
      · rw [nums_snoc, List.map_append, List.map_singleton, n2]; exact g2
  case done =>
    rintro D ys W hD hys ⟨⟨hcr, hca, hfa, hcb, hfb⟩, hB⟩ hK
    rw [hys] at hca hcb
    clear hys
    have hp1 : ∀ (W : World) (o : Obj), (W.putObj D o).cell? ⟨w.heap.size + 1, 0, none⟩ = W.cell? ⟨w.heap.size + 1, 0, none⟩ := fun W o => World.cell?_of_block (w := W) (World.putObj_heap_other (by simp at hD ⊢; omega))
    have hp2 : ∀ (W : World) (o : Obj), (W.putObj D o).cell? ⟨w.heap.size + 1 + 1, 0, none⟩ = W.cell? ⟨w.heap.size + 1 + 1, 0, none⟩ := fun W o => World.cell?_of_block (w := W) (World.putObj_heap_other (by simp at hD ⊢; omega))
    have hbb := fun (W4 : World) (hk : W4.heap[D]? = some (.deferred (some []))) => belowK_b (w := w) (Nat.le_refl _) W4 D (.deferred (some [])) (.deferred none) (by simp at hD; omega) hk rfl rfl
    gi_wp2
    gi_region
    all_goals
      gi_wp2
      refine ⟨by simp, .inl ⟨_, _, rfl, run_takeDeferred ?_, ?_⟩⟩
      · repeat first | exact hK | refine hk_drew ?_ | refine hk_set ?_
      refine ⟨.tuple #[.int .i64 (fixedN (ns.map E) : Nat), .int .i64 (fixedS (ns.map E) : Nat)], ?_, rfl, ?_⟩
      · simp [results, Try.f49, go_sem, hp1, hp2, hca, hcb]
      · refine Below.trans ?_ (hbb _ ?_)
        · repeat first | exact hB | refine below_drew ?_ | refine Below.setCell ?_ (by first | (simp; done) | (simp; omega)) _
        · repeat first | exact hK | refine hk_drew ?_ | refine hk_set ?_
  case stop =>
    rintro D c pre W _ _ h _
    exact h.elim
theorem fixed_any (w : World) (h : RowB w O r g M mb FA fc E D ns fs) (hT : total (ns.map E) ≤ 8192) :
    Calls Try.prog 49 #[.pointer (some ⟨r, 0, none⟩)] w fun e W' => e = .returned (.tuple #[.int .i64 (fixedN (ns.map E) : Nat), .int .i64 (fixedS (ns.map E) : Nat)]) ∧ Below w.heap.size w W' :=
  callsIn_wide.1 (fixed_in Fence.wide 3 trivial trivial trivial rfl (Nat.le_refl _) w h hT)
#print axioms fixed_any
end Go.Proofs.Ytnmifaohmafobaa.st
