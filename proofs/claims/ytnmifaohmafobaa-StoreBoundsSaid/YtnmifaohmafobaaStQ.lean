/- A store: List. -/
import Derived.Test.YtnmifaohmafobaaStP
namespace Go.Proofs.Ytnmifaohmafobaa.st
open Go.RowKit Go.Shelf Mem SM
set_option linter.unusedVariables false
attribute [local go_sem] Oper.semAt_some
variable {w w' : World} {O : Nat → Prop} {s M R : Nat} {L : List Ent}
/-- digests as cells -/
def svs (l : List (List UInt8)) : List Value := (l.map bv).flatten
theorem svs_app (l k : List (List UInt8)) : svs (l ++ k) = svs l ++ svs k := by simp [svs]
theorem svs_one (x : List UInt8) : svs [x] = bv x := by simp [svs]
theorem info_sum3 : ∃ i z, Try.prog.info? 40 = some i ∧ i.zero = some z ∧ i.size = 32 ∧ i.bytes = 32 ∧ z.cells.size = 32 := by
  have h : (Try.prog.info? 40).map (fun i => (i.zero.map (fun z => z.cells.size), i.size, i.bytes)) = some (some 32, 32, 32) := by kernel_rfl
  cases hi : Try.prog.info? 40 with
  | none => rw [hi] at h; cases h
  | some i =>
    rw [hi] at h
    simp only [Option.map_some, Option.some.injEq, Prod.mk.injEq] at h
    cases hz : i.zero with
    | none => rw [hz] at h; cases h.1
    | some z =>
      rw [hz] at h
      simp only [Option.map_some, Option.some.injEq] at h
      exact ⟨i, z, rfl, hz, h.2.1, h.2.2, h.1⟩
theorem list_no (v : Value) (w : World) (h : NoStore w v) :
    Calls Try.prog 35 #[v] w fun e w' => e = .returned (.slice none 0 0) ∧ Below w.heap.size w w' := by
  have hn : NoStore (w.alloc (.cells #[v] 23)) v := by
    rcases h with rfl | ⟨c, rfl, h⟩
    · exact Or.inl rfl
    · exact Or.inr ⟨c, rfl, by rw [World.cell?_alloc_lt _ _ _ (World.block_lt_of_cell? w _ h)]; exact h⟩
  have H := Lib.hid (made_no v _ hn)
  have hv : ∃ a, v = .pointer a := by
    rcases h with rfl | ⟨c, rfl, _⟩
    · exact ⟨_, rfl⟩
    · exact ⟨_, rfl⟩
  obtain ⟨a, rfl⟩ := hv
  clear hn h
  go_enter Try.func35, Try.ntmps35
  go_wp2_with (go_at_call 41; refine H.out.mono ?_; rintro e w1 ⟨rfl, rfl⟩)
  go_ret
  exact ⟨rfl, (Below.refl _ _).alloc (Nat.le_refl _) _⟩
theorem build_sums32 (x0 x1 x2 x3 x4 x5 x6 x7 x8 x9 x10 x11 x12 x13 x14 x15 x16 x17 x18 x19 x20 x21 x22 x23 x24 x25 x26 x27 x28 x29 x30 x31 : UInt8) (w : World) : (Instr.buildSlice 51 1 #[(0, .agg (bv [x0, x1, x2, x3, x4, x5, x6, x7, x8, x9, x10, x11, x12, x13, x14, x15, x16, x17, x18, x19, x20, x21, x22, x23, x24, x25, x26, x27, x28, x29, x30, x31]).toArray)]).run Try.prog w = .ok (.slice (some ⟨w.heap.size, 0, none⟩) 1 1) (w.alloc (.cells (bv [x0, x1, x2, x3, x4, x5, x6, x7, x8, x9, x10, x11, x12, x13, x14, x15, x16, x17, x18, x19, x20, x21, x22, x23, x24, x25, x26, x27, x28, x29, x30, x31]).toArray 40)) := by kernel_rfl
theorem build_sums (t : List UInt8) (ht : t.length = 32) (w : World) : (Instr.buildSlice 51 1 #[(0, .agg (bv t).toArray)]).run Try.prog w = .ok (.slice (some ⟨w.heap.size, 0, none⟩) 1 1) (w.alloc (.cells (bv t).toArray 40)) := by
  match t, ht with
  | [x0, x1, x2, x3, x4, x5, x6, x7, x8, x9, x10, x11, x12, x13, x14, x15, x16, x17, x18, x19, x20, x21, x22, x23, x24, x25, x26, x27, x28, x29, x30, x31], _ => exact build_sums32 x0 x1 x2 x3 x4 x5 x6 x7 x8 x9 x10 x11 x12 x13 x14 x15 x16 x17 x18 x19 x20 x21 x22 x23 x24 x25 x26 x27 x28 x29 x30 x31 w
theorem wp_buildSlice {P : Program} {op : Oper} {a : Act} {w : World} {K : Act → World → Prop} {Q : Exit → Act → World → Prop} (t : TypeId) (len : Nat) (parts : Array (Nat × Operand)) (ho : op.op = .buildSlice t len parts) (vs : Array (Nat × Value)) (hvs : (parts.map fun (i, x) => (i, a.eval x)) = vs) (v : Value) (w' : World)
    (hrun : (Instr.buildSlice t len vs).run P w = .ok v w') (h : K (a.put op.dst v) w') : op.wp P a w K Q := by
  unfold Oper.wp execOp
  simp only [ho, Sem.run_bind, hvs, Result.andThen_ok, hrun]
  exact h
theorem wp_appendN {P : Program} {op : Oper} {a : Act} {w : World} {K : Act → World → Prop} {Q : Exit → Act → World → Prop}
    (s x : Operand) (t : TypeId) (hop : op.op = Op.call { callee := Callee.builtin Builtin.append, args := #[s, x], argTypes := #[t, t] })
    (base : Nat) (e : TypeId) (i : TypeInfo) (z : Value) (size bytes : Nat) (h1 : P.underlying t = some (.slice e)) (h2 : P.info? e = some i) (h3 : i.zero = some z) (h4 : i.size = size) (h5 : i.bytes = bytes) (h6 : z.cells.size = size) (h7 : 0 < size)
    (v : Value) (k : Nat) (xs : List Value) (hs : a.eval s = v) (hown : w.ownsRow base e size v k xs) (ad : Addr) (m c : Nat) (news : List Value) (hx : a.eval x = .slice (some ad) m c) (hn : news.length = m * size)
    (hc : ∀ j u, news[j]? = some u → w.cell? (ad.add j) = some u) (h1c : ∀ u ∈ news, u.oneCell' = true) (b1 : k + m ≤ maxLen) (b2 : (k + m) * bytes ≤ 140737488355328) (b3 : base ≤ w.heap.size)
    (hK : ∀ v' w', w'.ownsRow base e size v' (k + m) (xs ++ news) → w.grownBy w' v.ownBlock → K (a.put op.dst v') w') : op.wp P a w K Q := by
  obtain ⟨v', w', hrun, r1, r2, r3⟩ := run_append_own (P := P) w base t op.type e i z size bytes h1 h2 h3 h4 h5 h6 h7 v k xs hown ad m c news hn hc h1c b1 b2 b3
  unfold Oper.wp execOp
  simp only [hop, resolve, invoke, builtin, Sem.run_bind, Sem.run_pure, Result.andThen_ok, List.map_toArray, List.map_cons, List.map_nil, hs, hx, hrun]
  exact hK v' w' r1 r2
/-- a slice of digests of the call's own -/
def OwS (w : World) (B : Nat) (v : Value) (l : List (List UInt8)) : Prop := w.ownsRow B 40 32 v l.length (svs l)
set_option maxRecDepth 100000 in
set_option maxHeartbeats 4000000 in
theorem list_in (w : World) (h : StoreB w O s M R L) :
    CallsIn Fence.wide 3 Try.prog 35 #[.pointer (some ⟨s, 0, none⟩)] w fun e W' => ∃ v, e = .returned v ∧ OwS W' w.heap.size v (sums L) ∧ Below w.heap.size w W' := by
  obtain ⟨i0, z0, hi, hz0, hz1, hz2, hz3⟩ := info_sum3
  obtain ⟨r, g, mb, FA, fc, E, D, ns, fs, hB, rfl, h0⟩ := h.row
  obtain ⟨lr, lg, lm⟩ := hB.lt
  have ls := cell_lt h0
  have hM := hB.mle.2
  have hcnt := hB.count
  have hB0 : Below w.heap.size w (((w.alloc (.cells #[.pointer (some ⟨s, 0, none⟩)] 23)).alloc (.cells #[.slice none 0 0] 51)).alloc (.cells #[.pointer (some ⟨r, 0, none⟩)] 62)) := (((Below.refl _ w).alloc (Nat.le_refl _) _).alloc (by simp) _).alloc (by simp; omega) _
  have c0 := Boxed.new w 23 (.pointer (some ⟨s, 0, none⟩))
  have bO := Boxed.new (w.alloc (.cells #[.pointer (some ⟨s, 0, none⟩)] 23)) 51 (.slice none 0 0)
  have c2 := cell_new1 ((w.alloc (.cells #[.pointer (some ⟨s, 0, none⟩)] 23)).alloc (.cells #[.slice none 0 0] 51)) (.pointer (some ⟨r, 0, none⟩)) 62
  have bR := Boxed.new ((w.alloc (.cells #[.pointer (some ⟨s, 0, none⟩)] 23)).alloc (.cells #[.slice none 0 0] 51)) 62 (.pointer (some ⟨r, 0, none⟩))
  simp only [World.size_alloc] at bO c2 bR
  obtain ⟨k0, k1, k2, k3⟩ := hB.cur
  have hseq := order_stops Fence.wide 2 trivial rfl (by omega) (w.heap.size + 1 + 1) r g M k0 hM ns _ c2.1 ((hB0.cell (p := ⟨r, 0, none⟩) lr).trans k1) ((hB0.cell (p := ⟨g, 35, none⟩) lg).trans k2) (k3.below lg hB0)
  have hm1 : Below w.heap.size w (w.alloc (.cells #[.pointer (some ⟨s, 0, none⟩)] 23)) := (Below.refl _ w).alloc (Nat.le_refl _) _
  have HMD := Lib.hid (made_yes s r (w.alloc (.cells #[.pointer (some ⟨s, 0, none⟩)] 23)) ((hm1.cell (p := ⟨s, 0, none⟩) ls).trans h0))
  have hrow : ∀ (x : Nat) (W : World), x ≤ M → Below w.heap.size w W → W.cell? ⟨s, 0, none⟩ = some (.pointer (some ⟨r, 0, none⟩)) ∧ W.cell? ⟨r, 0, none⟩ = some (.slice (some ⟨g, 0, none⟩) (M + 1) (M + 1)) ∧ W.rangeAt g (x * 36) (bv (E x).sum) := fun x W hx hb =>
    ⟨(hb.cell (p := ⟨s, 0, none⟩) ls).trans h0, (hb.cell (p := ⟨r, 0, none⟩) lr).trans k1, fun j v hv => (hb.cell (p := ⟨g, x * 36 + j, none⟩) lg).trans (hB.sm x hx j v hv)⟩
  have hlen : ∀ x, x ≤ M → (bv (E x).sum).length = 32 := fun x hx => by rw [bv_len]; exact hB.len x hx
  have h0w : (((w.alloc (.cells #[.pointer (some ⟨s, 0, none⟩)] 23)).alloc (.cells #[.slice none 0 0] 51))).cell? ⟨s, 0, none⟩ = some (.pointer (some ⟨r, 0, none⟩)) := by
    rw [World.cell?_alloc_lt _ _ _ (by simp; omega), World.cell?_alloc_lt _ _ _ ls]; exact h0
  have HROW := Lib.hid hrow
  have HLEN := Lib.hid hlen
  have HSEQ := Lib.hid hseq
  have HB0 := Lib.hid hB0
  have HC := Lib.hid (And.intro c0 (And.intro bO bR))
  clear h hB hB0 hseq hrow hlen c0 bO bR c2 k1 k2 k3 hm1
  refine callsIn_of_wp_marks Try.func35 rfl trivial ?_ rfl
  simp only [Try.ntmps35, List.size_toArray, List.length_cons, List.length_nil, Nat.reduceAdd, Nat.reduceSub, Array.replicate_succ, Array.replicate_zero, List.push_toArray, List.append_toArray, List.nil_append, List.cons_append]
  gi_wp2_with (first
    | (refine ⟨trivial, ?_⟩; gi_at_call 41; refine (callsIn_wide.2 HMD.out).mono ?_; rintro e w' ⟨rfl, rfl⟩)
    | (refine ⟨trivial, ?_⟩; gi_at_call 52; refine (order_in Fence.wide 2 trivial rfl _ _).mono ?_; rintro e w' ⟨rfl, rfl⟩)
    | fail)
  refine wpIn_rangeFunc_ownG (F := Fence.wide) (n := 3) rfl (by decide) (gf := 55) (lb := #[.pointer (some ⟨w.heap.size + 1 + 1, 0, none⟩)]) rfl trivial (enters_of Try.func55 (by kernel_rfl) rfl)
    HSEQ.out (fun h k => h.trans k) (KS.put (by simp) (by simp; omega) (by simp; omega)) (Below.refl _ _) (fun _ => rfl)
    (fun pre W => ((∃ v, Boxed W (w.heap.size + 1) 51 v ∧ W.ownsRow w.heap.size 40 32 v pre.length (svs (pre.map fun x => (E x.1).sum)) ∧ True) ∧ Boxed W w.heap.size 23 (.pointer (some ⟨s, 0, none⟩)) ∧ Boxed W (w.heap.size + 1 + 1) 62 (.pointer (some ⟨r, 0, none⟩))) ∧ Below w.heap.size w W)
    (fun _ _ _ => False)
    (OwnFrom.and (Own.from (fun p A B row hs hg hr => ⟨holdsRow_own w.heap.size (w.heap.size + 1) 51 40 32 (fun pre : List (Nm M) => pre.length) (fun pre => svs (pre.map fun x => (E x.1).sum)) (fun _ _ => True) p A B row hs.1 hg hr, boxed_own w.heap.size 23 (fun _ : List (Nm M) => .pointer (some ⟨s, 0, none⟩)) p A B row hs.2.1 hg hr, boxed_own (w.heap.size + 1 + 1) 62 (fun _ : List (Nm M) => .pointer (some ⟨r, 0, none⟩)) p A B row hs.2.2 hg hr⟩) _) (ownFrom_below (Nat.le_refl _) (by simp; omega)))
    (fun _ _ _ _ _ hs _ _ => hs)
    ⟨⟨⟨_, HC.out.2.1.alloc _, World.ownsRow_nil _ _ _ _, trivial⟩, (HC.out.1.alloc _).alloc _, HC.out.2.2⟩, HB0.out⟩
    (fun x => { tmps := #[.pointer (some ⟨s, 0, none⟩), .pointer (some ⟨w.heap.size, 0, none⟩), .slice none 0 0, .pointer (some ⟨w.heap.size + 1, 0, none⟩), .int .i64 (x.1 : Nat), .pointer (some ⟨s, 0, none⟩), .bool true, .bool false, .pointer (some ⟨s, 0, none⟩), .pointer (some ⟨s, 0, none⟩), .pointer (some ⟨s, 0, none⟩), .pointer (some ⟨r, 0, none⟩), .func (.func 55) #[] #[.pointer (some ⟨w.heap.size + 1 + 1, 0, none⟩)], .int .i64 (x.1 : Nat), undef, undef, undef, undef, undef, undef, undef, undef, undef, undef, undef, undef, undef, undef, undef], defers := [] }) ?assign ?body ?done ?stop
  case assign =>
    intro l x W K hK
    gi_wp2
    exact hK
  case body =>
    rintro l pre ⟨x, hx⟩ W ⟨⟨⟨v, hv, hrow, _⟩, hcs, hcr⟩, hB⟩ hlt
    have hc := hv.cell
    have hcs0 := hcs.cell
    have hxl := HLEN.out x hx
    obtain ⟨XS, hXS⟩ : ∃ XS, bv (E x).sum = XS := ⟨_, rfl⟩
    have hi1 : (x : Int) < ((M + 1 : Nat) : Int) := by omega
    have hi2 : (x : Int) < (M : Int) + 1 := by omega
    have hi3 : x < M + 1 := by omega
    obtain ⟨r1, r2, r3⟩ := HROW.out x W hx hB
    rw [hXS] at r3 hxl
    have hpl : pre.length < 64 := by omega
    have HI2 : (Try.prog.info? 40).map (·.size) = some XS.length := by rw [hxl]; exact info_sum
    have hu40 := Try.underlying40
    have hbs := build_sums (E x).sum (by have := HLEN.out x hx; rw [bv_len] at this; exact this)
    rw [hXS] at hbs
    have hone : ∀ u ∈ XS, u.oneCell' = true := by rw [← hXS]; exact bv_one _
    have hbA : Below w.heap.size w (W.drew.alloc (.cells XS.toArray 40)) := (below_drew hB).alloc hB.size _
    obtain ⟨rA1, rA2, rA3⟩ := HROW.out x _ hx hbA
    rw [hXS] at rA3
    have hcsA := (hcs.alloc (W := W.drew) (.cells XS.toArray 40)).cell
    have hcA := (hv.alloc (W := W.drew) (.cells XS.toArray 40)).cell
    have hcA2 := (hv.alloc (.cells XS.toArray 40)).cell
    gi_wp2
    refine round_region l _ (S := fun w' => w'.cell? ⟨w.heap.size, 0, none⟩ = some (.pointer (some ⟨s, 0, none⟩)) ∧ w'.cell? ⟨s, 0, none⟩ = some (.pointer (some ⟨r, 0, none⟩)) ∧ w'.cell? ⟨r, 0, none⟩ = some (.slice (some ⟨g, 0, none⟩) (M + 1) (M + 1)) ∧ w'.rangeAt g (x * 36) XS) (by kernel_rfl) (by kernel_rfl) ⟨hcs0, r1, r2, r3⟩ (fun hHeld => ?_)
    refine wpAnyH_take (i := 1) (oi := { dst := some 15, op := Op.load 23 (Operand.tmp 1), type := 23, pos := "store.go:244", after := #[], guard := none }) (v := .pointer (some ⟨s, 0, none⟩)) rfl (by kernel_rfl) (by kernel_rfl) (by kernel_rfl) (fun _ _ _ h => h) (Or.inl ⟨by rfl, ?hy1⟩) (by assumption) ?rest1
    case hy1 => (intro w hSw; (try dsimp only at hSw); go_split_ands; go_simp; try with_reducible rfl)
    try simp only [Act.put, List.setIfInBounds_toArray, List.set_cons_zero, List.set_cons_succ]
    refine wpAnyH_take (i := 2) (oi := { dst := some 16, op := Op.nilCheck (Operand.tmp 15), type := 0, pos := "store.go:244", after := #[{ on := 1, ground := Ground.data }], guard := none }) (v := .pointer (some ⟨s, 0, none⟩)) rfl (by kernel_rfl) (by kernel_rfl) (by kernel_rfl) (fun _ _ _ h => h) (Or.inl ⟨by rfl, ?hy2⟩) (by assumption) ?rest2
    case hy2 => (intro w hSw; (try dsimp only at hSw); go_split_ands; go_simp; try with_reducible rfl)
    try simp only [Act.put, List.setIfInBounds_toArray, List.set_cons_zero, List.set_cons_succ]
    refine wpAnyH_take (i := 3) (oi := { dst := some 17, op := Op.fieldAddr 64 (Operand.tmp 16) 0, type := 0, pos := "store.go:244", after := #[{ on := 2, ground := Ground.data }], guard := none }) (v := .pointer (some ⟨s, 0, none⟩)) rfl (by kernel_rfl) (by kernel_rfl) (by kernel_rfl) (fun _ _ _ h => h) (Or.inl ⟨by rfl, ?hy3⟩) (by assumption) ?rest3
    case hy3 => (intro w hSw; (try dsimp only at hSw); go_split_ands; go_simp; try with_reducible rfl)
    try simp only [Act.put, List.setIfInBounds_toArray, List.set_cons_zero, List.set_cons_succ]
    refine wpAnyH_take (i := 4) (oi := { dst := some 18, op := Op.load 62 (Operand.tmp 17), type := 62, pos := "store.go:244", after := #[{ on := 3, ground := Ground.data }], guard := none }) (v := .pointer (some ⟨r, 0, none⟩)) rfl (by kernel_rfl) (by kernel_rfl) (by kernel_rfl) (fun _ _ _ h => h) (Or.inl ⟨by rfl, ?hy4⟩) (by assumption) ?rest4
    case hy4 => (intro w hSw; (try dsimp only at hSw); go_split_ands; go_simp; try with_reducible rfl)
    try simp only [Act.put, List.setIfInBounds_toArray, List.set_cons_zero, List.set_cons_succ]
    refine wpAnyH_take (i := 5) (oi := { dst := some 19, op := Op.nilCheck (Operand.tmp 18), type := 0, pos := "store.go:244", after := #[{ on := 4, ground := Ground.data }], guard := none }) (v := .pointer (some ⟨r, 0, none⟩)) rfl (by kernel_rfl) (by kernel_rfl) (by kernel_rfl) (fun _ _ _ h => h) (Or.inl ⟨by rfl, ?hy5⟩) (by assumption) ?rest5
    case hy5 => (intro w hSw; (try dsimp only at hSw); go_split_ands; go_simp; try with_reducible rfl)
    try simp only [Act.put, List.setIfInBounds_toArray, List.set_cons_zero, List.set_cons_succ]
    refine wpAnyH_take (i := 6) (oi := { dst := some 20, op := Op.fieldAddr 77 (Operand.tmp 19) 0, type := 0, pos := "store.go:244", after := #[{ on := 5, ground := Ground.data }], guard := none }) (v := .pointer (some ⟨r, 0, none⟩)) rfl (by kernel_rfl) (by kernel_rfl) (by kernel_rfl) (fun _ _ _ h => h) (Or.inl ⟨by rfl, ?hy6⟩) (by assumption) ?rest6
    case hy6 => (intro w hSw; (try dsimp only at hSw); go_split_ands; go_simp; try with_reducible rfl)
    try simp only [Act.put, List.setIfInBounds_toArray, List.set_cons_zero, List.set_cons_succ]
    refine wpAnyH_take (i := 7) (oi := { dst := some 21, op := Op.load 74 (Operand.tmp 20), type := 74, pos := "store.go:244", after := #[{ on := 6, ground := Ground.data }], guard := none }) (v := .slice (some ⟨g, 0, none⟩) (M + 1) (M + 1)) rfl (by kernel_rfl) (by kernel_rfl) (by kernel_rfl) (fun _ _ _ h => h) (Or.inl ⟨by rfl, ?hy7⟩) (by assumption) ?rest7
    case hy7 => (intro w hSw; (try dsimp only at hSw); go_split_ands; go_simp; try with_reducible rfl)
    try simp only [Act.put, List.setIfInBounds_toArray, List.set_cons_zero, List.set_cons_succ]
    refine wpAnyH_take (i := 8) (oi := { dst := some 22, op := Op.move (Operand.tmp 4), type := 3, pos := "store.go:244", after := #[], guard := none }) (v := .int .i64 (x : Nat)) rfl (by kernel_rfl) (by kernel_rfl) (by kernel_rfl) (fun _ _ _ h => h) (Or.inl ⟨by rfl, ?hy8⟩) (by assumption) ?rest8
    case hy8 => (intro w hSw; (try dsimp only at hSw); go_split_ands; go_simp; try with_reducible rfl)
    try simp only [Act.put, List.setIfInBounds_toArray, List.set_cons_zero, List.set_cons_succ]
    refine wpAnyH_take (i := 9) (oi := { dst := some 23, op := Op.indexAddr 74 (Operand.tmp 21) (Operand.tmp 22), type := 0, pos := "store.go:244", after := #[{ on := 7, ground := Ground.data }, { on := 8, ground := Ground.data }], guard := none }) (v := .pointer (some ⟨g, x * 36, none⟩)) rfl (by kernel_rfl) (by kernel_rfl) (by kernel_rfl) (fun _ _ _ h => h) (Or.inl ⟨by rfl, ?hy9⟩) (by assumption) ?rest9
    case hy9 => (intro w hSw; (try dsimp only at hSw); go_split_ands; go_simp; try with_reducible rfl)
    try simp only [Act.put, List.setIfInBounds_toArray, List.set_cons_zero, List.set_cons_succ]
    refine wpAnyH_take (i := 10) (oi := { dst := some 24, op := Op.fieldAddr 73 (Operand.tmp 23) 0, type := 0, pos := "store.go:244", after := #[{ on := 9, ground := Ground.data }], guard := none }) (v := .pointer (some ⟨g, x * 36, none⟩)) rfl (by kernel_rfl) (by kernel_rfl) (by kernel_rfl) (fun _ _ _ h => h) (Or.inl ⟨by rfl, ?hy10⟩) (by assumption) ?rest10
    case hy10 => (intro w hSw; (try dsimp only at hSw); go_split_ands; go_simp; try with_reducible rfl)
    try simp only [Act.put, List.setIfInBounds_toArray, List.set_cons_zero, List.set_cons_succ]
    refine wpAnyH_take (i := 11) (oi := { dst := some 25, op := Op.load 40 (Operand.tmp 24), type := 40, pos := "store.go:244", after := #[{ on := 10, ground := Ground.data }], guard := none }) (v := .agg XS.toArray) rfl (by kernel_rfl) (by kernel_rfl) (by kernel_rfl) (fun _ _ _ h => h) (yieldsIf_load_mid (by rfl) 40 (.tmp 24) rfl g (x * 36) rfl XS _ (fun _ h => h.2.2.2) hu40 rfl HI2) (by assumption) ?rest11
    try simp only [Act.put, List.setIfInBounds_toArray, List.set_cons_zero, List.set_cons_succ]
    refine wpAnyH_ready (rs := [0, 12]) (by kernel_rfl) (by simp) ?_
    refine AllReadyH.cons (o := { dst := some 14, op := Op.load 51 (Operand.tmp 3), type := 51, pos := "store.go:244", after := #[], guard := none }) rfl (fun K hK => ?_) (AllReadyH.cons (o := { dst := some 26, op := Op.buildSlice 51 1 #[(0, Operand.tmp 25)], type := 51, pos := "store.go:244", after := #[{ on := 11, ground := Ground.data }], guard := none }) rfl (fun K hK => ?_) AllReadyH.nil)
    · go_simp
      refine hK.out _ _ ⟨hcs0, r1, r2, r3⟩ (fun hHeld => ?_)
      clear hK K
      try simp only [Act.put, List.setIfInBounds_toArray, List.set_cons_zero, List.set_cons_succ]
      refine wpAnyH_ready (rs := [12]) (by kernel_rfl) (by simp) ?_
      refine AllReadyH.cons (o := { dst := some 26, op := Op.buildSlice 51 1 #[(0, Operand.tmp 25)], type := 51, pos := "store.go:244", after := #[{ on := 11, ground := Ground.data }], guard := none }) rfl (fun K hK => ?_) AllReadyH.nil
      refine (if_pos (by rfl)).mpr ?_
      refine wp_buildSlice 51 1 #[(0, .tmp 25)] rfl #[(0, .agg XS.toArray)] (by kernel_rfl) _ _ (hbs _) ?_
      refine hK.out _ _ ⟨hcsA, rA1, rA2, rA3⟩ (fun hHeld => ?_)
      clear hK K
      try simp only [Act.put, List.setIfInBounds_toArray, List.set_cons_zero, List.set_cons_succ]
      refine wpAnyH_ready (rs := [13]) (by kernel_rfl) (by simp) ?_
      refine AllReadyH.cons (o := { dst := some 27, op := Op.call { callee := Callee.builtin Builtin.append, args := #[Operand.tmp 14, Operand.tmp 26], argTypes := #[51, 51] }, type := 51, pos := "store.go:244", after := #[{ on := 0, ground := Ground.data }, { on := 12, ground := Ground.data }], guard := none }) rfl (fun K hK => ?_) AllReadyH.nil
      refine (if_pos (by rfl)).mpr ?_
      refine wp_appendN (.tmp 14) (.tmp 26) 51 rfl w.heap.size 40 i0 z0 32 32 Try.underlying51 hi hz0 hz1 hz2 hz3 (by decide) v pre.length _ rfl ((hrow.drew).alloc _) ⟨W.heap.size, 0, none⟩ 1 1 XS rfl (by rw [hxl]) (fun j u hu => ?_) hone (by unfold maxLen; omega) (by omega) (by have := hB.size; show w.heap.size ≤ (W.drew.alloc _).heap.size; simp; omega) (fun v' w1 hown' hgrow => ?_)
      · rw [Addr.add_lit, Nat.zero_add]; exact (cell_of_row _ _ j XS.toArray _ (0, 0) (heap_alloc_new W.drew _)).trans (by simpa using hu)
      obtain ⟨hv1, hv2, hr2, hk2, hb2⟩ := Boxed.appended (W := W.drew) hv (by decide) hrow.drew hB.size (by simp) hown' hgrow
      have hbw1 : Below w.heap.size w w1 := (below_drew hB).trans ((((Below.refl w.heap.size W.drew).alloc hB.size _).grown hgrow (by have := hB.size; show w.heap.size ≤ (W.drew.alloc _).heap.size; simp; omega) (fun k e => hrow.lt k e |>.1)))
      have hcs1 := ((Boxed.alloc (W := W.drew) hcs (.cells XS.toArray 40)).kept hgrow ((hcs.not_row (by decide) hrow)))
      have hcr1 := ((Boxed.alloc (W := W.drew) hcr (.cells XS.toArray 40)).kept hgrow ((hcr.not_row (by decide) hrow)))
      obtain ⟨g', cap', rfl⟩ := ownsRow_succ hown'
      have hvc1 := hv1.cell
      have hvf1 := hv1.frozen
      obtain ⟨q1, q2, q3⟩ := HROW.out x w1 hx hbw1
      rw [hXS] at q3
      refine hK.out _ _ ⟨hcs1.cell, q1, q2, q3⟩ (fun hHeld => ?_)
      clear hK K
      try simp only [Act.put, List.setIfInBounds_toArray, List.set_cons_zero, List.set_cons_succ]
      refine wpAnyH_ready (rs := [14]) (by kernel_rfl) (by simp) ?_
      refine AllReadyH.cons (o := { dst := none, op := Op.store 51 (Operand.tmp 3) (Operand.tmp 27), type := 0, pos := "store.go:244", after := #[{ on := 13, ground := Ground.data }, { on := 13, ground := Ground.chain }, { on := 0, ground := Ground.phase }, { on := 1, ground := Ground.phase }, { on := 2, ground := Ground.phase }, { on := 3, ground := Ground.phase }, { on := 4, ground := Ground.phase }, { on := 5, ground := Ground.phase }, { on := 6, ground := Ground.phase }, { on := 7, ground := Ground.phase }, { on := 8, ground := Ground.phase }, { on := 9, ground := Ground.phase }, { on := 10, ground := Ground.phase }, { on := 11, ground := Ground.phase }, { on := 12, ground := Ground.phase }, { on := 13, ground := Ground.phase }], guard := none }) rfl (fun K hK => ?_) AllReadyH.nil
      go_simp
      obtain ⟨p1, p2, p3⟩ := HROW.out x _ hx (hbw1.setCell (p := ⟨w.heap.size + 1, 0, none⟩) (by show w.heap.size ≤ w.heap.size + 1; omega) (.slice (some ⟨g', 0, none⟩) (pre.length + 1) cap'))
      rw [hXS] at p3
      have hcs2 := hcs1.other (B' := w.heap.size + 1) (by omega) (.slice (some ⟨g', 0, none⟩) (pre.length + 1) cap')
      have hcr2 := hcr1.other (B' := w.heap.size + 1) (by omega) (.slice (some ⟨g', 0, none⟩) (pre.length + 1) cap')
      refine hK.out _ _ ⟨hcs2.cell, p1, p2, p3⟩ (fun hHeld => ?_)
      clear hK
      try simp only [Act.put, List.setIfInBounds_toArray, List.set_cons_zero, List.set_cons_succ]
      refine wpAnyH_done (Q := Well _) (by kernel_rfl) (show Well _ _ _ _ from ⟨rfl, ?_⟩) _
      gi_wp2
      refine ⟨⟨hk2.size, fun k o _ hk ho => hk2.same k o hk ho⟩, ⟨hk2.size, fun k hk hs => ?_⟩, ⟨⟨_, hv2, ?_, trivial⟩, hcs2, hcr2⟩, (below_drew hB).trans hb2⟩
      · rcases hs with rfl | rfl | rfl
        · exact hcr2.trans hcr.symm
        · exact hb2.block _ lr
        · exact hb2.block _ lg
      · rw [List.length_append, List.length_singleton, List.map_append, svs_app, List.map_singleton, svs_one, hXS]; exact hr2
    · refine (if_pos (by rfl)).mpr ?_
      refine wp_buildSlice 51 1 #[(0, .tmp 25)] rfl #[(0, .agg XS.toArray)] (by kernel_rfl) _ _ (hbs _) ?_
      refine hK.out _ _ ⟨hcsA, rA1, rA2, rA3⟩ (fun hHeld => ?_)
      clear hK K
      try simp only [Act.put, List.setIfInBounds_toArray, List.set_cons_zero, List.set_cons_succ]
      refine wpAnyH_ready (rs := [0]) (by kernel_rfl) (by simp) ?_
      refine AllReadyH.cons (o := { dst := some 14, op := Op.load 51 (Operand.tmp 3), type := 51, pos := "store.go:244", after := #[], guard := none }) rfl (fun K hK => ?_) AllReadyH.nil
      go_simp
      refine hK.out _ _ ⟨hcsA, rA1, rA2, rA3⟩ (fun hHeld => ?_)
      clear hK K
      try simp only [Act.put, List.setIfInBounds_toArray, List.set_cons_zero, List.set_cons_succ]
      refine wpAnyH_ready (rs := [13]) (by kernel_rfl) (by simp) ?_
      refine AllReadyH.cons (o := { dst := some 27, op := Op.call { callee := Callee.builtin Builtin.append, args := #[Operand.tmp 14, Operand.tmp 26], argTypes := #[51, 51] }, type := 51, pos := "store.go:244", after := #[{ on := 0, ground := Ground.data }, { on := 12, ground := Ground.data }], guard := none }) rfl (fun K hK => ?_) AllReadyH.nil
      refine (if_pos (by rfl)).mpr ?_
      refine wp_appendN (.tmp 14) (.tmp 26) 51 rfl w.heap.size 40 i0 z0 32 32 Try.underlying51 hi hz0 hz1 hz2 hz3 (by decide) v pre.length _ rfl ((hrow.drew).alloc _) ⟨W.heap.size, 0, none⟩ 1 1 XS rfl (by rw [hxl]) (fun j u hu => ?_) hone (by unfold maxLen; omega) (by omega) (by have := hB.size; show w.heap.size ≤ (W.drew.alloc _).heap.size; simp; omega) (fun v' w1 hown' hgrow => ?_)
      · rw [Addr.add_lit, Nat.zero_add]; exact (cell_of_row _ _ j XS.toArray _ (0, 0) (heap_alloc_new W.drew _)).trans (by simpa using hu)
      obtain ⟨hv1, hv2, hr2, hk2, hb2⟩ := Boxed.appended (W := W.drew) hv (by decide) hrow.drew hB.size (by simp) hown' hgrow
      have hbw1 : Below w.heap.size w w1 := (below_drew hB).trans ((((Below.refl w.heap.size W.drew).alloc hB.size _).grown hgrow (by have := hB.size; show w.heap.size ≤ (W.drew.alloc _).heap.size; simp; omega) (fun k e => hrow.lt k e |>.1)))
      have hcs1 := ((Boxed.alloc (W := W.drew) hcs (.cells XS.toArray 40)).kept hgrow ((hcs.not_row (by decide) hrow)))
      have hcr1 := ((Boxed.alloc (W := W.drew) hcr (.cells XS.toArray 40)).kept hgrow ((hcr.not_row (by decide) hrow)))
      obtain ⟨g', cap', rfl⟩ := ownsRow_succ hown'
      have hvc1 := hv1.cell
      have hvf1 := hv1.frozen
      obtain ⟨q1, q2, q3⟩ := HROW.out x w1 hx hbw1
      rw [hXS] at q3
      refine hK.out _ _ ⟨hcs1.cell, q1, q2, q3⟩ (fun hHeld => ?_)
      clear hK K
      try simp only [Act.put, List.setIfInBounds_toArray, List.set_cons_zero, List.set_cons_succ]
      refine wpAnyH_ready (rs := [14]) (by kernel_rfl) (by simp) ?_
      refine AllReadyH.cons (o := { dst := none, op := Op.store 51 (Operand.tmp 3) (Operand.tmp 27), type := 0, pos := "store.go:244", after := #[{ on := 13, ground := Ground.data }, { on := 13, ground := Ground.chain }, { on := 0, ground := Ground.phase }, { on := 1, ground := Ground.phase }, { on := 2, ground := Ground.phase }, { on := 3, ground := Ground.phase }, { on := 4, ground := Ground.phase }, { on := 5, ground := Ground.phase }, { on := 6, ground := Ground.phase }, { on := 7, ground := Ground.phase }, { on := 8, ground := Ground.phase }, { on := 9, ground := Ground.phase }, { on := 10, ground := Ground.phase }, { on := 11, ground := Ground.phase }, { on := 12, ground := Ground.phase }, { on := 13, ground := Ground.phase }], guard := none }) rfl (fun K hK => ?_) AllReadyH.nil
      go_simp
      obtain ⟨p1, p2, p3⟩ := HROW.out x _ hx (hbw1.setCell (p := ⟨w.heap.size + 1, 0, none⟩) (by show w.heap.size ≤ w.heap.size + 1; omega) (.slice (some ⟨g', 0, none⟩) (pre.length + 1) cap'))
      rw [hXS] at p3
      have hcs2 := hcs1.other (B' := w.heap.size + 1) (by omega) (.slice (some ⟨g', 0, none⟩) (pre.length + 1) cap')
      have hcr2 := hcr1.other (B' := w.heap.size + 1) (by omega) (.slice (some ⟨g', 0, none⟩) (pre.length + 1) cap')
      refine hK.out _ _ ⟨hcs2.cell, p1, p2, p3⟩ (fun hHeld => ?_)
      clear hK
      try simp only [Act.put, List.setIfInBounds_toArray, List.set_cons_zero, List.set_cons_succ]
      refine wpAnyH_done (Q := Well _) (by kernel_rfl) (show Well _ _ _ _ from ⟨rfl, ?_⟩) _
      gi_wp2
      refine ⟨⟨hk2.size, fun k o _ hk ho => hk2.same k o hk ho⟩, ⟨hk2.size, fun k hk hs => ?_⟩, ⟨⟨_, hv2, ?_, trivial⟩, hcs2, hcr2⟩, (below_drew hB).trans hb2⟩
      · rcases hs with rfl | rfl | rfl
        · exact hcr2.trans hcr.symm
        · exact hb2.block _ lr
        · exact hb2.block _ lg
      · rw [List.length_append, List.length_singleton, List.map_append, svs_app, List.map_singleton, svs_one, hXS]; exact hr2
  case done =>
    rintro D ys W hD hys ⟨⟨⟨v, hv, hrow, _⟩, hcs, _⟩, hB⟩ hK
    have hc := hv.cell
    gi_wp2
    refine ⟨by simp, .inl ⟨_, _, rfl, run_takeDeferred hK, ?_⟩⟩
    have hmm : (ys.map fun x : Nm M => (E x.1).sum) = sums (ns.map E) := by
      rw [← hys]; unfold sums nums; rw [List.map_map, List.map_map]; rfl
    have hll : ys.length = (sums (ns.map E)).length := by rw [← hmm, List.length_map]
    refine ⟨_, results_tmp rfl _ _ _, v, rfl, ?_, hB.trans (belowK_b (w := w) (Nat.le_refl _) W D _ _ (by simp at hD; omega) hK rfl rfl)⟩
    unfold OwS
    have hfin := ownsRow_putObj hrow (.deferred none) hK rfl
    rw [hmm, hll] at hfin
    exact hfin
  case stop =>
    rintro D c pre W _ _ h _
    exact h.elim
theorem list_any (w : World) (h : StoreB w O s M R L) :
    Calls Try.prog 35 #[.pointer (some ⟨s, 0, none⟩)] w fun e W' => ∃ v, e = .returned v ∧ OwS W' w.heap.size v (sums L) ∧ Below w.heap.size w W' := callsIn_wide.1 (list_in w h)
end Go.Proofs.Ytnmifaohmafobaa.st
