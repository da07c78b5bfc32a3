/- A store: the law's own example. -/
import Derived.Test.YtnmifaohmafobaaStT
namespace Go.Proofs.Ytnmifaohmafobaa.st
open Go.RowKit Go.Shelf Mem SM
set_option linter.unusedVariables false
attribute [local go_sem] Oper.semAt_some
variable {w0 w w' : World} {O : Nat → Prop} {s M R : Nat} {L : List Ent}
def A1 : List Ent := [⟨sumOf 1, [97], 0⟩]
def A2 : List Ent := [⟨sumOf 1, [97], 0⟩, ⟨sumOf 2, [98], 0⟩]
def A3 : List Ent := [⟨sumOf 2, [98], 0⟩, ⟨sumOf 1, [97], 0⟩]
def A4 : List Ent := [⟨sumOf 1, [97], 0⟩, ⟨sumOf 3, [99], 0⟩]
def A5 : List Ent := [⟨sumOf 1, [97], 1⟩, ⟨sumOf 3, [99], 0⟩]
def A6 : List Ent := [⟨sumOf 1, [97], 1⟩, ⟨sumOf 4, [100], 0⟩]
theorem st1 : putL (sumOf 1) [97] 2 10 [] = A1 ∧ putE (sumOf 1) [97] 2 10 [] = 0 := by constructor <;> kernel_rfl
theorem st2 : putL (sumOf 2) [98] 2 10 A1 = A2 ∧ putE (sumOf 2) [98] 2 10 A1 = 0 := by constructor <;> kernel_rfl
theorem st3 : SM.use (sumOf 1) A2 = A3 ∧ dataOf (sumOf 1) A2 = [97] ∧ sumOf 1 ∈ sums A2 := ⟨by kernel_rfl, by kernel_rfl, by unfold A2 sums; simp⟩
theorem st4 : putL (sumOf 3) [99] 2 10 A3 = A4 ∧ putE (sumOf 3) [99] 2 10 A3 = 0 := by constructor <;> kernel_rfl
theorem st5 : SM.pin (sumOf 1) A4 = A5 ∧ sums A4 = [sumOf 1, sumOf 3] ∧ sumOf 1 ∈ sums A4 := ⟨by kernel_rfl, rfl, by unfold A4 sums; simp⟩
theorem st6 : putL (sumOf 4) [100] 2 10 A5 = A6 ∧ putE (sumOf 4) [100] 2 10 A5 = 0 := by constructor <;> kernel_rfl
theorem st7 : decide (sumOf 1 ∈ sums A6) = true ∧ decide (sumOf 3 ∈ sums A6) = false ∧ putE (sumOf 5) (List.replicate 11 0) 2 10 A6 = 7 := ⟨by kernel_rfl, by kernel_rfl, by kernel_rfl⟩
theorem cvt1 (w : World) (x : Int) : (convert 32 32 (.slice (some ⟨w.heap.size, 0, none⟩) 1 1)).run Try.prog (w.alloc (.cells #[.int .u8 x] 5)) = .ok (.slice (some ⟨w.heap.size, 0, none⟩) 1 1) (lit1 w x) :=
  Lib.run_convert_bytes_const w 32 5 #[.int .u8 x] 1 1 Try.underlying32 Try.underlying5
theorem made_at (h : AtO w0 w O s M R L) : Calls Try.prog 41 #[.pointer (some ⟨s, 0, none⟩)] w fun e w' => e = .returned (.bool true) ∧ w = w' := by
  obtain ⟨r, g, mb, FA, fc, E, D, ns, fs, hB, hL, h0⟩ := h.1.row
  exact made_yes s r w h0
theorem AtO.other {g : Nat} (h : AtO w0 w O s M R L) (k : Kept w w' (fun i => i = g)) (hO : ∀ i, O i → i ≠ g) (hg : w0.heap.size ≤ g) : AtO w0 w' O s M R L :=
  ⟨h.1.kept k (fun i _ hi => hO i hi), fun i hi => ⟨(h.2.1 i hi).1, Nat.lt_of_lt_of_le (h.2.1 i hi).2 k.size⟩, h.2.2.trans (below_of_kept k h.2.2.size (fun i _ e => by omega))⟩
theorem cvt_at (w : World) (g : Nat) (x : Int) (h : w.heap[g]? = some (.cells #[.int .u8 x] 5)) :
    ∃ w', (convert 32 32 (.slice (some ⟨g, 0, none⟩) 1 1)).run Try.prog w = .ok (.slice (some ⟨g, 0, none⟩) 1 1) w' ∧ Kept w w' (fun i => i = g) ∧ w'.heap[g]? = some (.cells #[.int .u8 x] 5 (1, 2)) := by
  have hsh : w.shape? g = some (5, 1) := by
    unfold World.shape?
    rw [h]
    rfl
  refine ⟨w.freeze ⟨g, 1, none⟩ 1, ?_, ?_, ?_⟩
  · simp [convert, run_underlying Try.underlying32, run_underlying Try.underlying5, markStringish, hsh]
  · unfold World.freeze
    rw [if_neg (by decide)]
    refine ⟨rfl, rfl, rfl, by simp, fun i hi hn => ?_⟩
    simp only [Array.getElem?_modify]
    rw [if_neg (fun e => hn e.symm)]
  · unfold World.freeze
    rw [if_neg (by decide)]
    simp only [Array.getElem?_modify, if_true, h]
    rfl
theorem cvs (w : World) (g c : Nat) (x : UInt8) (h : w.cell? ⟨g, 0, none⟩ = some (.int .u8 (x.toNat : Nat))) : (convert 32 9 (.slice (some ⟨g, 0, none⟩) 1 c)).run Try.prog w = .ok (.string ⟨#[x]⟩) w :=
  run_convert_bytes_back w 32 9 5 ⟨g, 0, none⟩ c [x] Try.underlying32 Try.underlying5 Try.underlying9 (fun j hj => by
    have : j = 0 := by simpa using hj
    subst this
    simpa [Addr.add] using h)
theorem wp_conv {P : Program} {op : Oper} {a : Act} {w : World} {K : Act → World → Prop} {Q : Exit → Act → World → Prop} (t u : TypeId) (x : Operand) (ho : op.op = .convert t u x) (v2 : Value) (w' : World)
    (hrun : (convert t u (a.eval x)).run P w = .ok v2 w') (h : K (a.put op.dst v2) w') : op.wp P a w K Q := by
  unfold Oper.wp execOp
  simp only [ho, Sem.run_bind, hrun, Result.andThen_ok]
  exact h
theorem lit_rd {g : Nat} {fr : Nat × Nat} (h : w.heap[g]? = some (.cells #[.int .u8 (100 : Int)] 5 fr)) : Rd w w.heap.size (some ⟨g, 0, none⟩) 1 (bv [100]) := by
  refine ⟨rfl, fun _ => ⟨_, 0, rfl, (Array.getElem?_eq_some_iff.1 h).1, fun i hi => ?_⟩⟩
  have hi0 : i = 0 := by omega
  subst hi0
  unfold World.cell?
  rw [h]
  rfl
theorem wp_makeO {P : Program} {o : Oper} {a : Act} {K : Act → World → Prop} {Q : Exit → Act → World → Prop} {T E : TypeId} {z : Value} {bytes : Nat} (ty : Ty1 P T E z bytes) (s x : Operand)
    (ho : o.op = .makeSlice T s x) {kl kc : IntKind} {l m : Int} (hs : a.eval s = .int kl l) (hx : a.eval x = .int kc m) (h0 : 0 ≤ l) (hlm : l ≤ m) (hb : m * bytes ≤ 281474976710656) (h63 : m ≤ 9223372036854775807) {base : Nat} (hbase : base ≤ w.heap.size)
    (h : ∀ (g n c : Nat) w', (n : Int) = l → (c : Int) = m → Ow w' base E (some ⟨g, 0, none⟩) n c (List.replicate n z) → Below base w w' → w.grownBy w' none → g = w.heap.size → K (a.put o.dst (.slice (some ⟨g, 0, none⟩) n c)) w') :
    o.wp P a w K Q := by
  obtain ⟨i, hi, hz, hsz, hby⟩ := ty.hi
  obtain ⟨n, rfl⟩ := Int.eq_ofNat_of_zero_le h0
  obtain ⟨c, rfl⟩ := Int.eq_ofNat_of_zero_le (Int.le_trans h0 hlm)
  have hnc : n ≤ c := by omega
  have hb' : (i.bytes : Int) * (c : Int) ≤ 281474976710656 := by rw [hby, Int.mul_comm]; exact hb
  have hr := run_make (P := P) w T E i z ty.ht hi hz kl kc n c (by omega) (by omega) hb' (by omega)
  simp only [Int.toNat_natCast] at hr
  have hown : Ow (w.alloc (.cells (madeCells z.cells (c * i.size)) E)) base E (some ⟨w.heap.size, 0, none⟩) n c (List.replicate n z) := by
    refine ⟨by simp, Or.inr ⟨w.heap.size, c, _, rfl, hbase, heap_alloc_new w _, hnc, by simp only [maxLen]; omega, by rw [size_madeCells, hsz], ?_⟩⟩
    rw [hsz, Nat.mul_one, Nat.mul_one, ty.hz, toList_madeCells_one]
    simp [List.take_replicate, Nat.min_eq_left hnc]
  have hg := World.grownBy_alloc w (.cells (madeCells z.cells (c * i.size)) E) none
  unfold Oper.wp execOp
  simp only [ho, hs, hx, Sem.run_bind, Result.andThen_ok, hr]
  exact h _ n c _ rfl rfl hown (below_of_grown hg hbase (fun k hk => by cases hk)) hg rfl
theorem build_two64 (x0 x1 x2 x3 x4 x5 x6 x7 x8 x9 x10 x11 x12 x13 x14 x15 x16 x17 x18 x19 x20 x21 x22 x23 x24 x25 x26 x27 x28 x29 x30 x31 x32 x33 x34 x35 x36 x37 x38 x39 x40 x41 x42 x43 x44 x45 x46 x47 x48 x49 x50 x51 x52 x53 x54 x55 x56 x57 x58 x59 x60 x61 x62 x63 : UInt8) (w : World) : (Instr.buildSlice 51 2 #[(0, .agg (bv [x0, x1, x2, x3, x4, x5, x6, x7, x8, x9, x10, x11, x12, x13, x14, x15, x16, x17, x18, x19, x20, x21, x22, x23, x24, x25, x26, x27, x28, x29, x30, x31]).toArray), (1, .agg (bv [x32, x33, x34, x35, x36, x37, x38, x39, x40, x41, x42, x43, x44, x45, x46, x47, x48, x49, x50, x51, x52, x53, x54, x55, x56, x57, x58, x59, x60, x61, x62, x63]).toArray)]).run Try.prog w = .ok (.slice (some ⟨w.heap.size, 0, none⟩) 2 2) (w.alloc (.cells (bv [x0, x1, x2, x3, x4, x5, x6, x7, x8, x9, x10, x11, x12, x13, x14, x15, x16, x17, x18, x19, x20, x21, x22, x23, x24, x25, x26, x27, x28, x29, x30, x31] ++ bv [x32, x33, x34, x35, x36, x37, x38, x39, x40, x41, x42, x43, x44, x45, x46, x47, x48, x49, x50, x51, x52, x53, x54, x55, x56, x57, x58, x59, x60, x61, x62, x63]).toArray 40)) := by kernel_rfl
theorem build_two (t u : List UInt8) (ht : t.length = 32) (hu : u.length = 32) (w : World) : (Instr.buildSlice 51 2 #[(0, .agg (bv t).toArray), (1, .agg (bv u).toArray)]).run Try.prog w = .ok (.slice (some ⟨w.heap.size, 0, none⟩) 2 2) (w.alloc (.cells (bv t ++ bv u).toArray 40)) := by
  match t, ht, u, hu with
  | [x0, x1, x2, x3, x4, x5, x6, x7, x8, x9, x10, x11, x12, x13, x14, x15, x16, x17, x18, x19, x20, x21, x22, x23, x24, x25, x26, x27, x28, x29, x30, x31], _, [x32, x33, x34, x35, x36, x37, x38, x39, x40, x41, x42, x43, x44, x45, x46, x47, x48, x49, x50, x51, x52, x53, x54, x55, x56, x57, x58, x59, x60, x61, x62, x63], _ => exact build_two64 x0 x1 x2 x3 x4 x5 x6 x7 x8 x9 x10 x11 x12 x13 x14 x15 x16 x17 x18 x19 x20 x21 x22 x23 x24 x25 x26 x27 x28 x29 x30 x31 x32 x33 x34 x35 x36 x37 x38 x39 x40 x41 x42 x43 x44 x45 x46 x47 x48 x49 x50 x51 x52 x53 x54 x55 x56 x57 x58 x59 x60 x61 x62 x63 w
theorem rds_two (t u : List UInt8) (ht : t.length = 32) (hu : u.length = 32) (w : World) : RdS (w.alloc (.cells (bv t ++ bv u).toArray 40)) (.slice (some ⟨w.heap.size, 0, none⟩) 2 2) [t, u] := by
  have hr := rng_new w (bv t ++ bv u) 40
  have h1 : (bv t).length = 32 := by rw [bv_len, ht]
  refine ⟨_, 2, rfl, by simp [ht, hu], fun j hj => ⟨_, 0, rfl, by simp, fun i v hv => ?_⟩⟩
  rcases (by simp at hj; omega : j = 0 ∨ j = 1) with rfl | rfl
  · have := hr i v (by rw [List.getElem?_append_left (by have := (List.getElem?_eq_some_iff.1 hv).1; simpa using this)]; simpa using hv)
    simpa using this
  · have := hr (32 + i) v (by rw [List.getElem?_append_right (by rw [h1]; omega), h1, Nat.add_sub_cancel_left]; simpa using hv)
    simpa using this
theorem len4 : ∀ e ∈ A4, e.sum.length = 32 := by simp [A4, sumOf_len]
theorem held4 : ∀ e ∈ A4, e.held < 4611686018427387904 := by simp [A4]
set_option maxRecDepth 100000 in
set_option maxHeartbeats 8000000 in
theorem awake_any (w : World) : Calls Try.prog 16 #[] w fun e w' => e = .returned (.bool true) ∧ Below w.heap.size w w' := by
  go_enter Try.func16, Try.ntmps16
  go_wp2_with fail
  refine (new_at 2 10 (by omega) (by omega) (Below.refl w.heap.size w)).mono ?_
  rintro e w1 ⟨s, O, rfl, h1⟩
  have H1 := Lib.hid h1
  clear h1
  go_wp2_with fail
  refine (sum_of 1 _).mono ?_
  rintro e w2 ⟨rfl, hb2⟩
  have H2 := Lib.hid (H1.out.below hb2)
  have hc2 := cvt1 w2 97
  have hl1 := sumOf_len 1
  obtain ⟨S1, hS1⟩ : ∃ S1, (bv (sumOf 1)).toArray = S1 := ⟨_, rfl⟩
  have HS1 := Lib.hid hS1
  rw [hS1]
  clear H1 hb2 hS1
  go_wp2_with fail
  rw [← HS1.out]
  refine (put_lit (sumOf 1) 97 w2 hl1 H2.out).mono ?_
  rintro e w3 ⟨O3, rfl, h3, _⟩
  rw [st1.1] at h3
  rw [st1.2]
  have H3 := Lib.hid h3
  clear h3 H2 hc2
  go_wp2_with fail
  refine (sum_of 2 _).mono ?_
  rintro e w4 ⟨rfl, hb4⟩
  have H4 := Lib.hid (H3.out.below hb4)
  have hc4 := cvt1 w4 98
  obtain ⟨S2, hS2⟩ : ∃ S2, (bv (sumOf 2)).toArray = S2 := ⟨_, rfl⟩
  have HS2 := Lib.hid hS2
  rw [hS2, HS1.out]
  clear H3 hb4 hS2
  go_wp2_with fail
  rw [← HS2.out]
  refine (put_lit (sumOf 2) 98 w4 (sumOf_len 2) H4.out).mono ?_
  rintro e w5 ⟨O5, rfl, h5, _⟩
  rw [st2.1] at h5
  rw [st2.2, HS2.out]
  have H5 := Lib.hid h5
  clear h5 H4 hc4
  go_wp2_with fail
  refine (sum_of 1 _).mono ?_
  rintro e w6 ⟨rfl, hb6⟩
  have H6 := Lib.hid (H5.out.below hb6)
  rw [HS1.out]
  clear H5 hb6
  go_wp2_with fail
  rw [← HS1.out]
  refine (get_at (sumOf 1) w6 hl1 H6.out st3.2.2).mono ?_
  rintro e w7 ⟨AG, kG, cG, rfl, hG, h7, hK7⟩
  rw [st3.2.1] at hG
  rw [st3.1] at h7
  have hkG : kG = 1 := by have := hG.len; simpa [bv] using this.symm
  subst hkG
  obtain ⟨gb, rfl, hgb1, hgb2⟩ := hG.at0 (by omega)
  have hgc : w7.cell? ⟨gb, 0, none⟩ = some (.int .u8 97) := by
    obtain ⟨b1, o1, e1, _, hc1⟩ := hG.rd.at_ (k := 0) (by omega)
    injection e1 with e1
    injection e1 with e2 e3
    subst e2 e3
    simpa [bv] using hc1
  have hgO : ∀ i, O5 i → i < gb := fun i hi => Nat.lt_of_lt_of_le (H6.out.2.1 i hi).2 hgb1
  have H7 := Lib.hid h7
  have HG := Lib.hid (And.intro hgc (And.intro hgO hgb2))
  rw [HS1.out]
  clear H6 h7 hK7 hG hgc hgO
  go_wp2_with fail
  refine (sum_of 3 _).mono ?_
  rintro e w8 ⟨rfl, hb8⟩
  have H8 := Lib.hid (H7.out.below hb8)
  have HG8 := Lib.hid (And.intro ((hb8.cell (p := ⟨gb, 0, none⟩) hgb2).trans HG.out.1) (And.intro HG.out.2.1 (Nat.lt_of_lt_of_le hgb2 hb8.size)))
  have hc8 := cvt1 w8 99
  obtain ⟨S3, hS3⟩ : ∃ S3, (bv (sumOf 3)).toArray = S3 := ⟨_, rfl⟩
  have HS3 := Lib.hid hS3
  rw [hS3]
  clear H7 hb8 hS3 HG hgb2 hgb1
  go_wp2_with fail
  rw [← HS3.out]
  refine (put_lit (sumOf 3) 99 w8 (sumOf_len 3) H8.out).mono ?_
  rintro e w9 ⟨O9, rfl, h9, hK9⟩
  rw [st4.1] at h9
  rw [st4.2, HS3.out]
  have hg9 : w9.cell? ⟨gb, 0, none⟩ = some (.int .u8 97) := (hK9.cell (a := ⟨gb, 0, none⟩) HG8.out.2.2 (fun e => by
    rcases e with e | e
    · have := HG8.out.2.1 gb e; omega
    · have := HG8.out.2.2; have : w8.heap.size ≤ gb := e; omega)).trans HG8.out.1
  have H9 := Lib.hid h9
  clear h9 H8 hc8 hK9 HG8
  go_wp2_with fail
  obtain ⟨S4, hS4⟩ : ∃ S4, (bv (sumOf 4)).toArray = S4 := ⟨_, rfl⟩
  have HS4 := Lib.hid hS4
  obtain ⟨S5, hS5⟩ : ∃ S5, (bv (sumOf 5)).toArray = S5 := ⟨_, rfl⟩
  have HS5 := Lib.hid hS5
  clear hS4 hS5
  -- region 6
  refine wp_region_held_drew (S := fun _ => True) (by kernel_rfl) trivial (fun _ => ?_)
  have HA := Lib.hid (H9.out.drew)
  have hg0 : w9.drew.cell? ⟨gb, 0, none⟩ = some (.int .u8 97) := hg9
  obtain ⟨x0, hx⟩ : ∃ z, w9.drew = z := ⟨_, rfl⟩
  rw [hx] at HA hg0 ⊢
  have hcs := cvs x0 gb cG 97 hg0
  clear hx H9 hg0 hg9
  refine wpAnyH_take (i := 0) (oi := { dst := some 39, op := Op.move (Operand.tmp 1), type := 23, pos := "law.go:72", after := #[], guard := none }) (v := .pointer (some ⟨s, 0, none⟩)) rfl (by kernel_rfl) (by kernel_rfl) (by kernel_rfl) (fun _ _ _ h => h) (Or.inl ⟨by rfl, ?hy0_1⟩) (by assumption) ?rest0_1
  case hy0_1 => (intro w hSw; (try dsimp only at hSw); go_split_ands; go_simp; try with_reducible rfl)
  try simp only [Act.put, List.setIfInBounds_toArray, List.set_cons_zero, List.set_cons_succ]
  refine wpAnyH_ready (rs := [1]) (by kernel_rfl) (by simp) ?_
  refine AllReadyH.cons (o := { dst := some 40, op := Op.call { callee := Callee.value (Operand.func 41), args := #[Operand.tmp 39], argTypes := #[23] }, type := 4, pos := "law.go:72", after := #[{ on := 0, ground := Ground.data }], guard := none }) rfl (fun K hK => ?_) AllReadyH.nil
  go_simp
  refine (made_at HA.out).mono ?_
  rintro e w' ⟨rfl, rfl⟩
  go_wp2_with fail
  refine hK.out _ _ trivial (fun _ => ?_)
  clear hK K
  try simp only [Act.put, List.setIfInBounds_toArray, List.set_cons_zero, List.set_cons_succ]
  refine wpAnyH_take (i := 2) (oi := { dst := some 41, op := Op.move (Operand.tmp 40), type := 4, pos := "law.go:72", after := #[{ on := 1, ground := Ground.data }, { on := 1, ground := Ground.chain }], guard := none }) (v := .bool true) rfl (by kernel_rfl) (by kernel_rfl) (by kernel_rfl) (fun _ _ _ h => h) (Or.inl ⟨by rfl, ?hy2_2⟩) (by assumption) ?rest2_2
  case hy2_2 => (intro w hSw; (try dsimp only at hSw); go_split_ands; go_simp; try with_reducible rfl)
  try simp only [Act.put, List.setIfInBounds_toArray, List.set_cons_zero, List.set_cons_succ]
  refine wpAnyH_take (i := 3) (oi := { dst := some 42, op := Op.move (Operand.tmp 3), type := 32, pos := "law.go:72", after := #[{ on := 2, ground := Ground.guard }], guard := some (2, true) }) (v := .slice (some ⟨gb, 0, none⟩) 1 cG) rfl (by kernel_rfl) (by kernel_rfl) (by kernel_rfl) (fun _ _ _ h => h) (Or.inl ⟨by rfl, ?hy3_3⟩) (by assumption) ?rest3_3
  case hy3_3 => (intro w hSw; (try dsimp only at hSw); go_split_ands; go_simp; try with_reducible rfl)
  try simp only [Act.put, List.setIfInBounds_toArray, List.set_cons_zero, List.set_cons_succ]
  refine wpAnyH_ready (rs := [4]) (by kernel_rfl) (by simp) ?_
  refine AllReadyH.cons (o := { dst := some 43, op := Op.convert 32 9 (Operand.tmp 42), type := 9, pos := "law.go:72", after := #[{ on := 3, ground := Ground.data }, { on := 2, ground := Ground.guard }], guard := some (2, true) }) rfl (fun K hK => ?_) AllReadyH.nil
  refine (if_pos (by rfl)).mpr ?_
  unfold Oper.wp
  go_simp
  refine hK.out _ _ trivial (fun _ => ?_)
  clear hK K
  try simp only [Act.put, List.setIfInBounds_toArray, List.set_cons_zero, List.set_cons_succ]
  refine wpAnyH_take (i := 5) (oi := { dst := some 44, op := Op.binOp BinOp.eql 9 (Operand.tmp 43) (Operand.const (Value.string { data := #[97] })) 9, type := 4, pos := "law.go:72", after := #[{ on := 4, ground := Ground.data }, { on := 2, ground := Ground.guard }], guard := some (2, true) }) (v := .bool true) rfl (by kernel_rfl) (by kernel_rfl) (by kernel_rfl) (fun _ _ _ h => h) (Or.inl ⟨by rfl, ?hy5_4⟩) (by assumption) ?rest5_4
  case hy5_4 => (intro w hSw; (try dsimp only at hSw); go_split_ands; go_simp; try with_reducible rfl)
  try simp only [Act.put, List.setIfInBounds_toArray, List.set_cons_zero, List.set_cons_succ]
  refine wpAnyH_take (i := 6) (oi := { dst := some 45, op := Op.pick (Operand.tmp 41) (Operand.tmp 44) (Operand.const (Value.bool false)), type := 4, pos := "law.go:72", after := #[{ on := 2, ground := Ground.data }, { on := 5, ground := Ground.data }], guard := none }) (v := .bool true) rfl (by kernel_rfl) (by kernel_rfl) (by kernel_rfl) (fun _ _ _ h => h) (Or.inl ⟨by rfl, ?hy6_5⟩) (by assumption) ?rest6_5
  case hy6_5 => (intro w hSw; (try dsimp only at hSw); go_split_ands; go_simp; try with_reducible rfl)
  try simp only [Act.put, List.setIfInBounds_toArray, List.set_cons_zero, List.set_cons_succ]
  refine wpAnyH_take (i := 7) (oi := { dst := some 46, op := Op.move (Operand.tmp 45), type := 4, pos := "law.go:72", after := #[{ on := 6, ground := Ground.data }, { on := 2, ground := Ground.chain }], guard := none }) (v := .bool true) rfl (by kernel_rfl) (by kernel_rfl) (by kernel_rfl) (fun _ _ _ h => h) (Or.inl ⟨by rfl, ?hy7_6⟩) (by assumption) ?rest7_6
  case hy7_6 => (intro w hSw; (try dsimp only at hSw); go_split_ands; go_simp; try with_reducible rfl)
  try simp only [Act.put, List.setIfInBounds_toArray, List.set_cons_zero, List.set_cons_succ]
  refine wpAnyH_take (i := 8) (oi := { dst := some 47, op := Op.move (Operand.tmp 4), type := 24, pos := "law.go:72", after := #[{ on := 7, ground := Ground.guard }], guard := some (7, true) }) (v := .int .i64 0) rfl (by kernel_rfl) (by kernel_rfl) (by kernel_rfl) (fun _ _ _ h => h) (Or.inl ⟨by rfl, ?hy8_7⟩) (by assumption) ?rest8_7
  case hy8_7 => (intro w hSw; (try dsimp only at hSw); go_split_ands; go_simp; try with_reducible rfl)
  try simp only [Act.put, List.setIfInBounds_toArray, List.set_cons_zero, List.set_cons_succ]
  refine wpAnyH_take (i := 9) (oi := { dst := some 48, op := Op.binOp BinOp.eql 24 (Operand.tmp 47) (Operand.const (Value.int IntKind.i64 0)) 24, type := 4, pos := "law.go:72", after := #[{ on := 8, ground := Ground.data }, { on := 7, ground := Ground.guard }], guard := some (7, true) }) (v := .bool true) rfl (by kernel_rfl) (by kernel_rfl) (by kernel_rfl) (fun _ _ _ h => h) (Or.inl ⟨by rfl, ?hy9_8⟩) (by assumption) ?rest9_8
  case hy9_8 => (intro w hSw; (try dsimp only at hSw); go_split_ands; go_simp; try with_reducible rfl)
  try simp only [Act.put, List.setIfInBounds_toArray, List.set_cons_zero, List.set_cons_succ]
  refine wpAnyH_take (i := 10) (oi := { dst := some 49, op := Op.pick (Operand.tmp 46) (Operand.tmp 48) (Operand.const (Value.bool false)), type := 4, pos := "law.go:72", after := #[{ on := 7, ground := Ground.data }, { on := 9, ground := Ground.data }], guard := none }) (v := .bool true) rfl (by kernel_rfl) (by kernel_rfl) (by kernel_rfl) (fun _ _ _ h => h) (Or.inl ⟨by rfl, ?hy10_9⟩) (by assumption) ?rest10_9
  case hy10_9 => (intro w hSw; (try dsimp only at hSw); go_split_ands; go_simp; try with_reducible rfl)
  try simp only [Act.put, List.setIfInBounds_toArray, List.set_cons_zero, List.set_cons_succ]
  refine wpAnyH_take (i := 11) (oi := { dst := some 50, op := Op.move (Operand.tmp 49), type := 4, pos := "law.go:72", after := #[{ on := 10, ground := Ground.data }, { on := 7, ground := Ground.chain }], guard := none }) (v := .bool true) rfl (by kernel_rfl) (by kernel_rfl) (by kernel_rfl) (fun _ _ _ h => h) (Or.inl ⟨by rfl, ?hy11_10⟩) (by assumption) ?rest11_10
  case hy11_10 => (intro w hSw; (try dsimp only at hSw); go_split_ands; go_simp; try with_reducible rfl)
  try simp only [Act.put, List.setIfInBounds_toArray, List.set_cons_zero, List.set_cons_succ]
  refine wpAnyH_take (i := 12) (oi := { dst := some 51, op := Op.move (Operand.tmp 5), type := 24, pos := "law.go:72", after := #[{ on := 11, ground := Ground.guard }], guard := some (11, true) }) (v := .int .i64 0) rfl (by kernel_rfl) (by kernel_rfl) (by kernel_rfl) (fun _ _ _ h => h) (Or.inl ⟨by rfl, ?hy12_11⟩) (by assumption) ?rest12_11
  case hy12_11 => (intro w hSw; (try dsimp only at hSw); go_split_ands; go_simp; try with_reducible rfl)
  try simp only [Act.put, List.setIfInBounds_toArray, List.set_cons_zero, List.set_cons_succ]
  refine wpAnyH_take (i := 13) (oi := { dst := some 52, op := Op.binOp BinOp.eql 24 (Operand.tmp 51) (Operand.const (Value.int IntKind.i64 0)) 24, type := 4, pos := "law.go:72", after := #[{ on := 12, ground := Ground.data }, { on := 11, ground := Ground.guard }], guard := some (11, true) }) (v := .bool true) rfl (by kernel_rfl) (by kernel_rfl) (by kernel_rfl) (fun _ _ _ h => h) (Or.inl ⟨by rfl, ?hy13_12⟩) (by assumption) ?rest13_12
  case hy13_12 => (intro w hSw; (try dsimp only at hSw); go_split_ands; go_simp; try with_reducible rfl)
  try simp only [Act.put, List.setIfInBounds_toArray, List.set_cons_zero, List.set_cons_succ]
  refine wpAnyH_take (i := 14) (oi := { dst := some 53, op := Op.pick (Operand.tmp 50) (Operand.tmp 52) (Operand.const (Value.bool false)), type := 4, pos := "law.go:72", after := #[{ on := 11, ground := Ground.data }, { on := 13, ground := Ground.data }], guard := none }) (v := .bool true) rfl (by kernel_rfl) (by kernel_rfl) (by kernel_rfl) (fun _ _ _ h => h) (Or.inl ⟨by rfl, ?hy14_13⟩) (by assumption) ?rest14_13
  case hy14_13 => (intro w hSw; (try dsimp only at hSw); go_split_ands; go_simp; try with_reducible rfl)
  try simp only [Act.put, List.setIfInBounds_toArray, List.set_cons_zero, List.set_cons_succ]
  refine wpAnyH_take (i := 15) (oi := { dst := some 54, op := Op.move (Operand.tmp 53), type := 4, pos := "law.go:72", after := #[{ on := 14, ground := Ground.data }, { on := 11, ground := Ground.chain }], guard := none }) (v := .bool true) rfl (by kernel_rfl) (by kernel_rfl) (by kernel_rfl) (fun _ _ _ h => h) (Or.inl ⟨by rfl, ?hy15_14⟩) (by assumption) ?rest15_14
  case hy15_14 => (intro w hSw; (try dsimp only at hSw); go_split_ands; go_simp; try with_reducible rfl)
  try simp only [Act.put, List.setIfInBounds_toArray, List.set_cons_zero, List.set_cons_succ]
  refine wpAnyH_take (i := 16) (oi := { dst := some 55, op := Op.move (Operand.tmp 1), type := 23, pos := "law.go:72", after := #[{ on := 15, ground := Ground.guard }], guard := some (15, true) }) (v := .pointer (some ⟨s, 0, none⟩)) rfl (by kernel_rfl) (by kernel_rfl) (by kernel_rfl) (fun _ _ _ h => h) (Or.inl ⟨by rfl, ?hy16_15⟩) (by assumption) ?rest16_15
  case hy16_15 => (intro w hSw; (try dsimp only at hSw); go_split_ands; go_simp; try with_reducible rfl)
  try simp only [Act.put, List.setIfInBounds_toArray, List.set_cons_zero, List.set_cons_succ]
  refine wpAnyH_ready (rs := [17]) (by kernel_rfl) (by simp) ?_
  refine AllReadyH.cons (o := { dst := some 56, op := Op.call { callee := Callee.value (Operand.func 35), args := #[Operand.tmp 55], argTypes := #[23] }, type := 51, pos := "law.go:72", after := #[{ on := 16, ground := Ground.data }, { on := 15, ground := Ground.chain }, { on := 15, ground := Ground.guard }], guard := some (15, true) }) rfl (fun K hK => ?_) AllReadyH.nil
  go_simp
  refine (list_at x0 HA.out len4).mono ?_
  rintro e x1 ⟨vl, rfl, hR, hb⟩
  replace HA := Lib.hid (HA.out.below hb)
  rw [st5.2.1] at hR
  have HR := Lib.hid hR
  clear hb hR hcs
  go_wp2_with fail
  refine hK.out _ _ trivial (fun _ => ?_)
  clear hK K
  try simp only [Act.put, List.setIfInBounds_toArray, List.set_cons_zero, List.set_cons_succ]
  refine wpAnyH_ready (rs := [18]) (by kernel_rfl) (by simp) ?_
  refine AllReadyH.cons (o := { dst := some 57, op := Op.call { callee := Callee.value (Operand.func 19), args := #[Operand.const (Value.int IntKind.i64 1)], argTypes := #[3] }, type := 40, pos := "law.go:72", after := #[{ on := 17, ground := Ground.chain }, { on := 15, ground := Ground.guard }], guard := some (15, true) }) rfl (fun K hK => ?_) AllReadyH.nil
  go_simp
  refine (sum_of 1 _).mono ?_
  rintro e x2 ⟨rfl, hb⟩
  replace HA := Lib.hid (HA.out.below hb)
  replace HR := Lib.hid (HR.out.keep hb)
  clear hb
  rw [HS1.out]
  go_wp2_with fail
  refine hK.out _ _ trivial (fun _ => ?_)
  clear hK K
  try simp only [Act.put, List.setIfInBounds_toArray, List.set_cons_zero, List.set_cons_succ]
  refine wpAnyH_ready (rs := [19]) (by kernel_rfl) (by simp) ?_
  refine AllReadyH.cons (o := { dst := some 58, op := Op.call { callee := Callee.value (Operand.func 19), args := #[Operand.const (Value.int IntKind.i64 3)], argTypes := #[3] }, type := 40, pos := "law.go:72", after := #[{ on := 18, ground := Ground.chain }, { on := 15, ground := Ground.guard }], guard := some (15, true) }) rfl (fun K hK => ?_) AllReadyH.nil
  go_simp
  refine (sum_of 3 _).mono ?_
  rintro e x3 ⟨rfl, hb⟩
  replace HA := Lib.hid (HA.out.below hb)
  replace HR := Lib.hid (HR.out.keep hb)
  clear hb
  rw [HS3.out]
  go_wp2_with fail
  refine hK.out _ _ trivial (fun _ => ?_)
  clear hK K
  try simp only [Act.put, List.setIfInBounds_toArray, List.set_cons_zero, List.set_cons_succ]
  refine wpAnyH_ready (rs := [20]) (by kernel_rfl) (by simp) ?_
  refine AllReadyH.cons (o := { dst := some 59, op := Op.buildSlice 51 2 #[(0, Operand.tmp 57), (1, Operand.tmp 58)], type := 51, pos := "law.go:72", after := #[{ on := 18, ground := Ground.data }, { on := 19, ground := Ground.data }, { on := 15, ground := Ground.guard }], guard := some (15, true) }) rfl (fun K hK => ?_) AllReadyH.nil
  refine (if_pos (by rfl)).mpr ?_
  have hbt := build_two (sumOf 1) (sumOf 3) (sumOf_len 1) (sumOf_len 3) x3
  rw [HS1.out, HS3.out] at hbt
  refine wp_buildSlice 51 2 #[(0, .tmp 57), (1, .tmp 58)] rfl #[(0, .agg S1), (1, .agg S3)] (by kernel_rfl) _ _ hbt ?_
  have hR2 := rds_two (sumOf 1) (sumOf 3) (sumOf_len 1) (sumOf_len 3) x3
  have hbb : Below x3.heap.size x3 (x3.alloc (.cells (bv (sumOf 1) ++ bv (sumOf 3)).toArray 40)) := (Below.refl _ _).alloc (Nat.le_refl _) _
  replace HA := Lib.hid (HA.out.below hbb)
  replace HR := Lib.hid (HR.out.keep hbb)
  obtain ⟨x4, hx4⟩ : ∃ z, x3.alloc (.cells (bv (sumOf 1) ++ bv (sumOf 3)).toArray 40) = z := ⟨_, rfl⟩
  rw [hx4] at hR2 HA HR ⊢
  have HR2 := Lib.hid hR2
  clear hbt hbb hx4 hR2
  refine hK.out _ _ trivial (fun _ => ?_)
  clear hK K
  try simp only [Act.put, List.setIfInBounds_toArray, List.set_cons_zero, List.set_cons_succ]
  refine wpAnyH_ready (rs := [21]) (by kernel_rfl) (by simp) ?_
  refine AllReadyH.cons (o := { dst := some 60, op := Op.call { callee := Callee.value (Operand.func 34), args := #[Operand.tmp 56, Operand.tmp 59], argTypes := #[51, 51] }, type := 4, pos := "law.go:72", after := #[{ on := 17, ground := Ground.data }, { on := 20, ground := Ground.data }, { on := 19, ground := Ground.chain }, { on := 15, ground := Ground.guard }], guard := some (15, true) }) rfl (fun K hK => ?_) AllReadyH.nil
  go_simp
  refine (eqs_any [sumOf 1, sumOf 3] [sumOf 1, sumOf 3] _ _ x4 HR.out HR2.out (by simp) (by simp)).mono ?_
  rintro e x5 ⟨rfl, hb⟩
  rw [decide_eq_true rfl]
  replace HA := Lib.hid (HA.out.below hb)
  clear hb HR HR2
  go_wp2_with fail
  refine hK.out _ _ trivial (fun _ => ?_)
  clear hK K
  try simp only [Act.put, List.setIfInBounds_toArray, List.set_cons_zero, List.set_cons_succ]
  refine wpAnyH_take (i := 22) (oi := { dst := some 61, op := Op.pick (Operand.tmp 54) (Operand.tmp 60) (Operand.const (Value.bool false)), type := 4, pos := "law.go:72", after := #[{ on := 15, ground := Ground.data }, { on := 21, ground := Ground.data }], guard := none }) (v := .bool true) rfl (by kernel_rfl) (by kernel_rfl) (by kernel_rfl) (fun _ _ _ h => h) (Or.inl ⟨by rfl, ?hy22_16⟩) (by assumption) ?rest22_16
  case hy22_16 => (intro w hSw; (try dsimp only at hSw); go_split_ands; go_simp; try with_reducible rfl)
  try simp only [Act.put, List.setIfInBounds_toArray, List.set_cons_zero, List.set_cons_succ]
  refine wpAnyH_take (i := 23) (oi := { dst := some 62, op := Op.move (Operand.tmp 61), type := 4, pos := "law.go:72", after := #[{ on := 22, ground := Ground.data }, { on := 21, ground := Ground.chain }], guard := none }) (v := .bool true) rfl (by kernel_rfl) (by kernel_rfl) (by kernel_rfl) (fun _ _ _ h => h) (Or.inl ⟨by rfl, ?hy23_17⟩) (by assumption) ?rest23_17
  case hy23_17 => (intro w hSw; (try dsimp only at hSw); go_split_ands; go_simp; try with_reducible rfl)
  try simp only [Act.put, List.setIfInBounds_toArray, List.set_cons_zero, List.set_cons_succ]
  refine wpAnyH_take (i := 24) (oi := { dst := some 63, op := Op.move (Operand.tmp 1), type := 23, pos := "law.go:72", after := #[{ on := 23, ground := Ground.guard }], guard := some (23, true) }) (v := .pointer (some ⟨s, 0, none⟩)) rfl (by kernel_rfl) (by kernel_rfl) (by kernel_rfl) (fun _ _ _ h => h) (Or.inl ⟨by rfl, ?hy24_18⟩) (by assumption) ?rest24_18
  case hy24_18 => (intro w hSw; (try dsimp only at hSw); go_split_ands; go_simp; try with_reducible rfl)
  try simp only [Act.put, List.setIfInBounds_toArray, List.set_cons_zero, List.set_cons_succ]
  refine wpAnyH_ready (rs := [25]) (by kernel_rfl) (by simp) ?_
  refine AllReadyH.cons (o := { dst := some 64, op := Op.call { callee := Callee.value (Operand.func 19), args := #[Operand.const (Value.int IntKind.i64 1)], argTypes := #[3] }, type := 40, pos := "law.go:72", after := #[{ on := 23, ground := Ground.chain }, { on := 23, ground := Ground.guard }], guard := some (23, true) }) rfl (fun K hK => ?_) AllReadyH.nil
  go_simp
  refine (sum_of 1 _).mono ?_
  rintro e x6 ⟨rfl, hb⟩
  replace HA := Lib.hid (HA.out.below hb)
  clear hb
  rw [HS1.out]
  go_wp2_with fail
  refine hK.out _ _ trivial (fun _ => ?_)
  clear hK K
  try simp only [Act.put, List.setIfInBounds_toArray, List.set_cons_zero, List.set_cons_succ]
  refine wpAnyH_ready (rs := [26]) (by kernel_rfl) (by simp) ?_
  refine AllReadyH.cons (o := { dst := some 65, op := Op.call { callee := Callee.value (Operand.func 22), args := #[Operand.tmp 63, Operand.tmp 64], argTypes := #[23, 40] }, type := 24, pos := "law.go:72", after := #[{ on := 24, ground := Ground.data }, { on := 25, ground := Ground.data }, { on := 25, ground := Ground.chain }, { on := 23, ground := Ground.guard }], guard := some (23, true) }) rfl (fun K hK => ?_) AllReadyH.nil
  go_simp
  rw [← HS1.out]
  refine (pin_at (sumOf 1) x6 (sumOf_len 1) HA.out st5.2.2 held4).mono ?_
  rintro e x7 ⟨rfl, h7, _⟩
  rw [st5.1] at h7
  replace HA := Lib.hid h7
  rw [HS1.out]
  clear h7
  go_wp2_with fail
  refine hK.out _ _ trivial (fun _ => ?_)
  clear hK K
  try simp only [Act.put, List.setIfInBounds_toArray, List.set_cons_zero, List.set_cons_succ]
  refine wpAnyH_take (i := 27) (oi := { dst := some 66, op := Op.binOp BinOp.eql 24 (Operand.tmp 65) (Operand.const (Value.int IntKind.i64 0)) 24, type := 4, pos := "law.go:72", after := #[{ on := 26, ground := Ground.data }, { on := 23, ground := Ground.guard }], guard := some (23, true) }) (v := .bool true) rfl (by kernel_rfl) (by kernel_rfl) (by kernel_rfl) (fun _ _ _ h => h) (Or.inl ⟨by rfl, ?hy27_19⟩) (by assumption) ?rest27_19
  case hy27_19 => (intro w hSw; (try dsimp only at hSw); go_split_ands; go_simp; try with_reducible rfl)
  try simp only [Act.put, List.setIfInBounds_toArray, List.set_cons_zero, List.set_cons_succ]
  refine wpAnyH_take (i := 28) (oi := { dst := some 67, op := Op.pick (Operand.tmp 62) (Operand.tmp 66) (Operand.const (Value.bool false)), type := 4, pos := "law.go:72", after := #[{ on := 23, ground := Ground.data }, { on := 27, ground := Ground.data }], guard := none }) (v := .bool true) rfl (by kernel_rfl) (by kernel_rfl) (by kernel_rfl) (fun _ _ _ h => h) (Or.inl ⟨by rfl, ?hy28_20⟩) (by assumption) ?rest28_20
  case hy28_20 => (intro w hSw; (try dsimp only at hSw); go_split_ands; go_simp; try with_reducible rfl)
  try simp only [Act.put, List.setIfInBounds_toArray, List.set_cons_zero, List.set_cons_succ]
  refine wpAnyH_take (i := 29) (oi := { dst := some 68, op := Op.move (Operand.tmp 67), type := 4, pos := "law.go:72", after := #[{ on := 28, ground := Ground.data }, { on := 26, ground := Ground.chain }], guard := none }) (v := .bool true) rfl (by kernel_rfl) (by kernel_rfl) (by kernel_rfl) (fun _ _ _ h => h) (Or.inl ⟨by rfl, ?hy29_21⟩) (by assumption) ?rest29_21
  case hy29_21 => (intro w hSw; (try dsimp only at hSw); go_split_ands; go_simp; try with_reducible rfl)
  try simp only [Act.put, List.setIfInBounds_toArray, List.set_cons_zero, List.set_cons_succ]
  refine wpAnyH_take (i := 30) (oi := { dst := some 69, op := Op.move (Operand.tmp 1), type := 23, pos := "law.go:72", after := #[{ on := 29, ground := Ground.guard }], guard := some (29, true) }) (v := .pointer (some ⟨s, 0, none⟩)) rfl (by kernel_rfl) (by kernel_rfl) (by kernel_rfl) (fun _ _ _ h => h) (Or.inl ⟨by rfl, ?hy30_22⟩) (by assumption) ?rest30_22
  case hy30_22 => (intro w hSw; (try dsimp only at hSw); go_split_ands; go_simp; try with_reducible rfl)
  try simp only [Act.put, List.setIfInBounds_toArray, List.set_cons_zero, List.set_cons_succ]
  obtain ⟨OO, hOO⟩ : ∃ z, O9 = z := ⟨_, rfl⟩
  rw [hOO] at HA
  clear hOO
  refine wpAnyH_ready (rs := [31, 32]) (by kernel_rfl) (by simp) ?_
  refine AllReadyH.cons (o := { dst := some 70, op := Op.call { callee := Callee.value (Operand.func 19), args := #[Operand.const (Value.int IntKind.i64 4)], argTypes := #[3] }, type := 40, pos := "law.go:72", after := #[{ on := 29, ground := Ground.chain }, { on := 29, ground := Ground.guard }], guard := some (29, true) }) rfl (fun K hK => ?_) (AllReadyH.cons (o := { dst := some 71, op := Op.buildSlice 32 1 #[(0, Operand.const (Value.int IntKind.u8 100))], type := 32, pos := "law.go:72", after := #[{ on := 29, ground := Ground.guard }], guard := some (29, true) }) rfl (fun K hK => ?_) AllReadyH.nil)
  · go_simp
    refine (sum_of 4 _).mono ?_
    rintro e x8 ⟨rfl, hb⟩
    have hO4 : ∀ i, OO i → i < x7.heap.size := fun i hi => (HA.out.2.1 i hi).2
    replace HA := Lib.hid (HA.out.below hb)
    clear hb
    rw [HS4.out]
    go_wp2_with fail
    refine hK.out _ _ trivial (fun _ => ?_)
    clear hK K
    try simp only [Act.put, List.setIfInBounds_toArray, List.set_cons_zero, List.set_cons_succ]
    refine wpAnyH_ready (rs := [32]) (by kernel_rfl) (by simp) ?_
    refine AllReadyH.cons (o := { dst := some 71, op := Op.buildSlice 32 1 #[(0, Operand.const (Value.int IntKind.u8 100))], type := 32, pos := "law.go:72", after := #[{ on := 29, ground := Ground.guard }], guard := some (29, true) }) rfl (fun K hK => ?_) AllReadyH.nil
    refine (if_pos (by rfl)).mpr ?_
    unfold Oper.wp
    go_simp
    have hg : (x8.alloc (.cells #[.int .u8 100] 5)).heap[x8.heap.size]? = some (.cells #[.int .u8 100] 5) := World.alloc_heap_new _ _
    have HG := Lib.hid (And.intro hg (And.intro (fun i hi => (HA.out.2.1 i hi).2) (by simp) : (∀ i, OO i → i < x8.heap.size) ∧ x8.heap.size < (x8.alloc (.cells #[.int .u8 100] 5)).heap.size))
    replace HA := Lib.hid (HA.out.alloc (.cells #[.int .u8 100] 5))
    obtain ⟨x9, hx⟩ : ∃ z, x8.alloc (.cells #[.int .u8 100] 5) = z := ⟨_, rfl⟩
    obtain ⟨g9, hg9⟩ : ∃ z, x8.heap.size = z := ⟨_, rfl⟩
    rw [hx] at HA HG ⊢
    rw [hg9] at HG ⊢
    clear hx hg9 hg
    refine hK.out _ _ trivial (fun _ => ?_)
    clear hK K
    try simp only [Act.put, List.setIfInBounds_toArray, List.set_cons_zero, List.set_cons_succ]
    refine wpAnyH_ready (rs := [33]) (by kernel_rfl) (by simp) ?_
    refine AllReadyH.cons (o := { dst := some 72, op := Op.convert 32 32 (Operand.tmp 71), type := 32, pos := "law.go:72", after := #[{ on := 32, ground := Ground.data }, { on := 29, ground := Ground.guard }], guard := some (29, true) }) rfl (fun K hK => ?_) AllReadyH.nil
    refine (if_pos (by rfl)).mpr ?_
    obtain ⟨x10, hcv, hkv, hgv⟩ := cvt_at x9 g9 100 HG.out.1
    refine wp_conv 32 32 (.tmp 71) rfl _ x10 hcv ?_
    replace HA := Lib.hid (HA.out.other hkv (fun i hi e => by have := HG.out.2.1 i hi; omega) (by have h1 := HA.out.2.1 s HA.out.1.os; have h2 := HG.out.2.1 s HA.out.1.os; omega))
    replace HG := Lib.hid (And.intro hgv (And.intro HG.out.2.1 (Nat.lt_of_lt_of_le HG.out.2.2 hkv.size)))
    clear hcv hkv hgv
    refine hK.out _ _ trivial (fun _ => ?_)
    clear hK K
    try simp only [Act.put, List.setIfInBounds_toArray, List.set_cons_zero, List.set_cons_succ]
    refine wpAnyH_ready (rs := [34]) (by kernel_rfl) (by simp) ?_
    refine AllReadyH.cons (o := { dst := some 73, op := Op.call { callee := Callee.value (Operand.func 29), args := #[Operand.tmp 69, Operand.tmp 70, Operand.tmp 72], argTypes := #[23, 40, 32] }, type := 24, pos := "law.go:72", after := #[{ on := 30, ground := Ground.data }, { on := 31, ground := Ground.data }, { on := 33, ground := Ground.data }, { on := 31, ground := Ground.chain }, { on := 29, ground := Ground.guard }], guard := some (29, true) }) rfl (fun K hK => ?_) AllReadyH.nil
    go_simp
    rw [← HS4.out]
    refine (put_at (sumOf 4) [100] _ 1 1 _ x10 (sumOf_len 4) HA.out (lit_rd HG.out.1) (fun i e _ hO => by injection e with e; have := HG.out.2.1 i hO; subst e; simp at this) (Nat.le_refl _) (by omega)).mono ?_
    rintro e x11 ⟨O6, rfl, h, _⟩
    rw [st6.1] at h
    rw [st6.2, HS4.out]
    replace HA := Lib.hid h
    clear h HG
    go_wp2_with fail
    refine hK.out _ _ trivial (fun _ => ?_)
    clear hK K
    try simp only [Act.put, List.setIfInBounds_toArray, List.set_cons_zero, List.set_cons_succ]
    refine wpAnyH_take (i := 35) (oi := { dst := some 74, op := Op.binOp BinOp.eql 24 (Operand.tmp 73) (Operand.const (Value.int IntKind.i64 0)) 24, type := 4, pos := "law.go:72", after := #[{ on := 34, ground := Ground.data }, { on := 29, ground := Ground.guard }], guard := some (29, true) }) (v := .bool true) rfl (by kernel_rfl) (by kernel_rfl) (by kernel_rfl) (fun _ _ _ h => h) (Or.inl ⟨by rfl, ?hy35_23⟩) (by assumption) ?rest35_23
    case hy35_23 => (intro w hSw; (try dsimp only at hSw); go_split_ands; go_simp; try with_reducible rfl)
    try simp only [Act.put, List.setIfInBounds_toArray, List.set_cons_zero, List.set_cons_succ]
    refine wpAnyH_take (i := 36) (oi := { dst := some 75, op := Op.pick (Operand.tmp 68) (Operand.tmp 74) (Operand.const (Value.bool false)), type := 4, pos := "law.go:72", after := #[{ on := 29, ground := Ground.data }, { on := 35, ground := Ground.data }], guard := none }) (v := .bool true) rfl (by kernel_rfl) (by kernel_rfl) (by kernel_rfl) (fun _ _ _ h => h) (Or.inl ⟨by rfl, ?hy36_24⟩) (by assumption) ?rest36_24
    case hy36_24 => (intro w hSw; (try dsimp only at hSw); go_split_ands; go_simp; try with_reducible rfl)
    try simp only [Act.put, List.setIfInBounds_toArray, List.set_cons_zero, List.set_cons_succ]
    refine wpAnyH_take (i := 37) (oi := { dst := some 76, op := Op.move (Operand.tmp 75), type := 4, pos := "law.go:72", after := #[{ on := 36, ground := Ground.data }, { on := 34, ground := Ground.chain }], guard := none }) (v := .bool true) rfl (by kernel_rfl) (by kernel_rfl) (by kernel_rfl) (fun _ _ _ h => h) (Or.inl ⟨by rfl, ?hy37_25⟩) (by assumption) ?rest37_25
    case hy37_25 => (intro w hSw; (try dsimp only at hSw); go_split_ands; go_simp; try with_reducible rfl)
    try simp only [Act.put, List.setIfInBounds_toArray, List.set_cons_zero, List.set_cons_succ]
    refine wpAnyH_take (i := 38) (oi := { dst := some 77, op := Op.move (Operand.tmp 1), type := 23, pos := "law.go:72", after := #[{ on := 37, ground := Ground.guard }], guard := some (37, true) }) (v := .pointer (some ⟨s, 0, none⟩)) rfl (by kernel_rfl) (by kernel_rfl) (by kernel_rfl) (fun _ _ _ h => h) (Or.inl ⟨by rfl, ?hy38_26⟩) (by assumption) ?rest38_26
    case hy38_26 => (intro w hSw; (try dsimp only at hSw); go_split_ands; go_simp; try with_reducible rfl)
    try simp only [Act.put, List.setIfInBounds_toArray, List.set_cons_zero, List.set_cons_succ]
    refine wpAnyH_ready (rs := [39]) (by kernel_rfl) (by simp) ?_
    refine AllReadyH.cons (o := { dst := some 78, op := Op.call { callee := Callee.value (Operand.func 19), args := #[Operand.const (Value.int IntKind.i64 1)], argTypes := #[3] }, type := 40, pos := "law.go:72", after := #[{ on := 37, ground := Ground.chain }, { on := 37, ground := Ground.guard }], guard := some (37, true) }) rfl (fun K hK => ?_) AllReadyH.nil
    go_simp
    refine (sum_of 1 _).mono ?_
    rintro e x12 ⟨rfl, hb⟩
    replace HA := Lib.hid (HA.out.below hb)
    clear hb
    rw [HS1.out]
    go_wp2_with fail
    refine hK.out _ _ trivial (fun _ => ?_)
    clear hK K
    try simp only [Act.put, List.setIfInBounds_toArray, List.set_cons_zero, List.set_cons_succ]
    refine wpAnyH_ready (rs := [40]) (by kernel_rfl) (by simp) ?_
    refine AllReadyH.cons (o := { dst := some 79, op := Op.call { callee := Callee.value (Operand.func 37), args := #[Operand.tmp 77, Operand.tmp 78], argTypes := #[23, 40] }, type := 4, pos := "law.go:72", after := #[{ on := 38, ground := Ground.data }, { on := 39, ground := Ground.data }, { on := 39, ground := Ground.chain }, { on := 37, ground := Ground.guard }], guard := some (37, true) }) rfl (fun K hK => ?_) AllReadyH.nil
    go_simp
    rw [← HS1.out]
    refine (has_any (sumOf 1) x12 (sumOf_len 1) HA.out.1).mono ?_
    rintro e x13 ⟨rfl, hb⟩
    rw [st7.1, HS1.out]
    replace HA := Lib.hid (HA.out.below hb)
    clear hb
    go_wp2_with fail
    refine hK.out _ _ trivial (fun _ => ?_)
    clear hK K
    try simp only [Act.put, List.setIfInBounds_toArray, List.set_cons_zero, List.set_cons_succ]
    refine wpAnyH_take (i := 41) (oi := { dst := some 80, op := Op.pick (Operand.tmp 76) (Operand.tmp 79) (Operand.const (Value.bool false)), type := 4, pos := "law.go:72", after := #[{ on := 37, ground := Ground.data }, { on := 40, ground := Ground.data }], guard := none }) (v := .bool true) rfl (by kernel_rfl) (by kernel_rfl) (by kernel_rfl) (fun _ _ _ h => h) (Or.inl ⟨by rfl, ?hy41_27⟩) (by assumption) ?rest41_27
    case hy41_27 => (intro w hSw; (try dsimp only at hSw); go_split_ands; go_simp; try with_reducible rfl)
    try simp only [Act.put, List.setIfInBounds_toArray, List.set_cons_zero, List.set_cons_succ]
    refine wpAnyH_take (i := 42) (oi := { dst := some 81, op := Op.move (Operand.tmp 80), type := 4, pos := "law.go:72", after := #[{ on := 41, ground := Ground.data }, { on := 40, ground := Ground.chain }], guard := none }) (v := .bool true) rfl (by kernel_rfl) (by kernel_rfl) (by kernel_rfl) (fun _ _ _ h => h) (Or.inl ⟨by rfl, ?hy42_28⟩) (by assumption) ?rest42_28
    case hy42_28 => (intro w hSw; (try dsimp only at hSw); go_split_ands; go_simp; try with_reducible rfl)
    try simp only [Act.put, List.setIfInBounds_toArray, List.set_cons_zero, List.set_cons_succ]
    refine wpAnyH_take (i := 43) (oi := { dst := some 82, op := Op.move (Operand.tmp 1), type := 23, pos := "law.go:72", after := #[{ on := 42, ground := Ground.guard }], guard := some (42, true) }) (v := .pointer (some ⟨s, 0, none⟩)) rfl (by kernel_rfl) (by kernel_rfl) (by kernel_rfl) (fun _ _ _ h => h) (Or.inl ⟨by rfl, ?hy43_29⟩) (by assumption) ?rest43_29
    case hy43_29 => (intro w hSw; (try dsimp only at hSw); go_split_ands; go_simp; try with_reducible rfl)
    try simp only [Act.put, List.setIfInBounds_toArray, List.set_cons_zero, List.set_cons_succ]
    refine wpAnyH_ready (rs := [44]) (by kernel_rfl) (by simp) ?_
    refine AllReadyH.cons (o := { dst := some 83, op := Op.call { callee := Callee.value (Operand.func 19), args := #[Operand.const (Value.int IntKind.i64 3)], argTypes := #[3] }, type := 40, pos := "law.go:72", after := #[{ on := 42, ground := Ground.chain }, { on := 42, ground := Ground.guard }], guard := some (42, true) }) rfl (fun K hK => ?_) AllReadyH.nil
    go_simp
    refine (sum_of 3 _).mono ?_
    rintro e x14 ⟨rfl, hb⟩
    replace HA := Lib.hid (HA.out.below hb)
    clear hb
    rw [HS3.out]
    go_wp2_with fail
    refine hK.out _ _ trivial (fun _ => ?_)
    clear hK K
    try simp only [Act.put, List.setIfInBounds_toArray, List.set_cons_zero, List.set_cons_succ]
    refine wpAnyH_ready (rs := [45]) (by kernel_rfl) (by simp) ?_
    refine AllReadyH.cons (o := { dst := some 84, op := Op.call { callee := Callee.value (Operand.func 37), args := #[Operand.tmp 82, Operand.tmp 83], argTypes := #[23, 40] }, type := 4, pos := "law.go:72", after := #[{ on := 43, ground := Ground.data }, { on := 44, ground := Ground.data }, { on := 44, ground := Ground.chain }, { on := 42, ground := Ground.guard }], guard := some (42, true) }) rfl (fun K hK => ?_) AllReadyH.nil
    go_simp
    rw [← HS3.out]
    refine (has_any (sumOf 3) x14 (sumOf_len 3) HA.out.1).mono ?_
    rintro e x15 ⟨rfl, hb⟩
    rw [st7.2.1, HS3.out]
    replace HA := Lib.hid (HA.out.below hb)
    clear hb
    go_wp2_with fail
    refine hK.out _ _ trivial (fun _ => ?_)
    clear hK K
    try simp only [Act.put, List.setIfInBounds_toArray, List.set_cons_zero, List.set_cons_succ]
    refine wpAnyH_take (i := 46) (oi := { dst := some 85, op := Op.unOp UnOp.not 4 (Operand.tmp 84), type := 4, pos := "law.go:72", after := #[{ on := 45, ground := Ground.data }, { on := 42, ground := Ground.guard }], guard := some (42, true) }) (v := .bool true) rfl (by kernel_rfl) (by kernel_rfl) (by kernel_rfl) (fun _ _ _ h => h) (Or.inl ⟨by rfl, ?hy46_30⟩) (by assumption) ?rest46_30
    case hy46_30 => (intro w hSw; (try dsimp only at hSw); go_split_ands; go_simp; try with_reducible rfl)
    try simp only [Act.put, List.setIfInBounds_toArray, List.set_cons_zero, List.set_cons_succ]
    refine wpAnyH_take (i := 47) (oi := { dst := some 86, op := Op.pick (Operand.tmp 81) (Operand.tmp 85) (Operand.const (Value.bool false)), type := 4, pos := "law.go:72", after := #[{ on := 42, ground := Ground.data }, { on := 46, ground := Ground.data }], guard := none }) (v := .bool true) rfl (by kernel_rfl) (by kernel_rfl) (by kernel_rfl) (fun _ _ _ h => h) (Or.inl ⟨by rfl, ?hy47_31⟩) (by assumption) ?rest47_31
    case hy47_31 => (intro w hSw; (try dsimp only at hSw); go_split_ands; go_simp; try with_reducible rfl)
    try simp only [Act.put, List.setIfInBounds_toArray, List.set_cons_zero, List.set_cons_succ]
    refine wpAnyH_take (i := 48) (oi := { dst := some 87, op := Op.move (Operand.tmp 86), type := 4, pos := "law.go:72", after := #[{ on := 47, ground := Ground.data }, { on := 45, ground := Ground.chain }], guard := none }) (v := .bool true) rfl (by kernel_rfl) (by kernel_rfl) (by kernel_rfl) (fun _ _ _ h => h) (Or.inl ⟨by rfl, ?hy48_32⟩) (by assumption) ?rest48_32
    case hy48_32 => (intro w hSw; (try dsimp only at hSw); go_split_ands; go_simp; try with_reducible rfl)
    try simp only [Act.put, List.setIfInBounds_toArray, List.set_cons_zero, List.set_cons_succ]
    refine wpAnyH_take (i := 49) (oi := { dst := some 88, op := Op.move (Operand.tmp 1), type := 23, pos := "law.go:72", after := #[{ on := 48, ground := Ground.guard }], guard := some (48, true) }) (v := .pointer (some ⟨s, 0, none⟩)) rfl (by kernel_rfl) (by kernel_rfl) (by kernel_rfl) (fun _ _ _ h => h) (Or.inl ⟨by rfl, ?hy49_33⟩) (by assumption) ?rest49_33
    case hy49_33 => (intro w hSw; (try dsimp only at hSw); go_split_ands; go_simp; try with_reducible rfl)
    try simp only [Act.put, List.setIfInBounds_toArray, List.set_cons_zero, List.set_cons_succ]
    refine wpAnyH_ready (rs := [50, 51]) (by kernel_rfl) (by simp) ?_
    refine AllReadyH.cons (o := { dst := some 89, op := Op.call { callee := Callee.value (Operand.func 19), args := #[Operand.const (Value.int IntKind.i64 5)], argTypes := #[3] }, type := 40, pos := "law.go:72", after := #[{ on := 48, ground := Ground.chain }, { on := 48, ground := Ground.guard }], guard := some (48, true) }) rfl (fun K hK => ?_) (AllReadyH.cons (o := { dst := some 90, op := Op.makeSlice 32 (Operand.const (Value.int IntKind.i64 11)) (Operand.const (Value.int IntKind.i64 11)), type := 32, pos := "law.go:72", after := #[{ on := 48, ground := Ground.guard }], guard := some (48, true) }) rfl (fun K hK => ?_) AllReadyH.nil)
    · go_simp
      refine (sum_of 5 _).mono ?_
      rintro e x16 ⟨rfl, hb⟩
      replace HA := Lib.hid (HA.out.below hb)
      clear hb
      rw [HS5.out]
      go_wp2_with fail
      refine hK.out _ _ trivial (fun _ => ?_)
      clear hK K
      try simp only [Act.put, List.setIfInBounds_toArray, List.set_cons_zero, List.set_cons_succ]
      refine wpAnyH_ready (rs := [51]) (by kernel_rfl) (by simp) ?_
      refine AllReadyH.cons (o := { dst := some 90, op := Op.makeSlice 32 (Operand.const (Value.int IntKind.i64 11)) (Operand.const (Value.int IntKind.i64 11)), type := 32, pos := "law.go:72", after := #[{ on := 48, ground := Ground.guard }], guard := some (48, true) }) rfl (fun K hK => ?_) AllReadyH.nil
      refine (if_pos (by rfl)).mpr ?_
      refine wp_makeO u8ty (.const (.int .i64 11)) (.const (.int .i64 11)) rfl rfl rfl (by omega) (by omega) (by omega) (by omega) (base := x16.heap.size) (Nat.le_refl _) ?_
      intro gm nm cm x17 hnm hcm hom hbm _ hgm
      obtain rfl : nm = 11 := by omega
      obtain rfl : cm = 11 := by omega
      have HM := Lib.hid (And.intro (And.intro hom.rd (by rw [hgm]; exact fun i hi => (HA.out.2.1 i hi).2 : ∀ i, _ → i < gm)) (And.intro (by rw [hgm]; exact Nat.le_refl _ : x16.heap.size ≤ gm) (by obtain ⟨g', e', _, h'⟩ := hom.at0 (by omega); injection e' with e'; injection e' with e'; omega : gm < x17.heap.size)))
      replace HA := Lib.hid (HA.out.below hbm)
      clear hnm hcm hom hbm hgm
      refine hK.out _ _ trivial (fun _ => ?_)
      clear hK K
      try simp only [Act.put, List.setIfInBounds_toArray, List.set_cons_zero, List.set_cons_succ]
      refine wpAnyH_ready (rs := [52]) (by kernel_rfl) (by simp) ?_
      refine AllReadyH.cons (o := { dst := some 91, op := Op.call { callee := Callee.value (Operand.func 29), args := #[Operand.tmp 88, Operand.tmp 89, Operand.tmp 90], argTypes := #[23, 40, 32] }, type := 24, pos := "law.go:72", after := #[{ on := 49, ground := Ground.data }, { on := 50, ground := Ground.data }, { on := 51, ground := Ground.data }, { on := 50, ground := Ground.chain }, { on := 48, ground := Ground.guard }], guard := some (48, true) }) rfl (fun K hK => ?_) AllReadyH.nil
      go_simp
      rw [← HS5.out]
      refine (put_at (sumOf 5) (List.replicate 11 0) _ 11 11 _ x17 (sumOf_len 5) HA.out (by have := HM.out.1.1; simpa [bv] using this) (fun i e _ hO => by injection e with e; have := HM.out.1.2 i hO; subst e; simp at this) (Nat.le_refl _) (by omega)).mono ?_
      rintro e x18 ⟨O7, rfl, h, _⟩
      rw [st7.2.2, HS5.out]
      have hfin := h.2.2
      have HF := Lib.hid hfin
      clear h hfin HM HA
      go_wp2_with fail
      refine hK.out _ _ trivial (fun _ => ?_)
      clear hK K
      try simp only [Act.put, List.setIfInBounds_toArray, List.set_cons_zero, List.set_cons_succ]
      refine wpAnyH_take (i := 53) (oi := { dst := some 92, op := Op.binOp BinOp.eql 24 (Operand.tmp 91) (Operand.const (Value.int IntKind.i64 7)) 24, type := 4, pos := "law.go:72", after := #[{ on := 52, ground := Ground.data }, { on := 48, ground := Ground.guard }], guard := some (48, true) }) (v := .bool true) rfl (by kernel_rfl) (by kernel_rfl) (by kernel_rfl) (fun _ _ _ h => h) (Or.inl ⟨by rfl, ?hy53_34⟩) (by assumption) ?rest53_34
      case hy53_34 => (intro w hSw; (try dsimp only at hSw); go_split_ands; go_simp; try with_reducible rfl)
      try simp only [Act.put, List.setIfInBounds_toArray, List.set_cons_zero, List.set_cons_succ]
      refine wpAnyH_take (i := 54) (oi := { dst := some 93, op := Op.pick (Operand.tmp 87) (Operand.tmp 92) (Operand.const (Value.bool false)), type := 4, pos := "law.go:72", after := #[{ on := 48, ground := Ground.data }, { on := 53, ground := Ground.data }], guard := none }) (v := .bool true) rfl (by kernel_rfl) (by kernel_rfl) (by kernel_rfl) (fun _ _ _ h => h) (Or.inl ⟨by rfl, ?hy54_35⟩) (by assumption) ?rest54_35
      case hy54_35 => (intro w hSw; (try dsimp only at hSw); go_split_ands; go_simp; try with_reducible rfl)
      try simp only [Act.put, List.setIfInBounds_toArray, List.set_cons_zero, List.set_cons_succ]
      refine wpAnyH_take (i := 55) (oi := { dst := some 0, op := Op.assign (Operand.tmp 93), type := 4, pos := "law.go:72", after := #[{ on := 54, ground := Ground.data }, { on := 52, ground := Ground.chain }, { on := 0, ground := Ground.phase }, { on := 1, ground := Ground.phase }, { on := 2, ground := Ground.phase }, { on := 3, ground := Ground.phase }, { on := 4, ground := Ground.phase }, { on := 5, ground := Ground.phase }, { on := 6, ground := Ground.phase }, { on := 7, ground := Ground.phase }, { on := 8, ground := Ground.phase }, { on := 9, ground := Ground.phase }, { on := 10, ground := Ground.phase }, { on := 11, ground := Ground.phase }, { on := 12, ground := Ground.phase }, { on := 13, ground := Ground.phase }, { on := 14, ground := Ground.phase }, { on := 15, ground := Ground.phase }, { on := 16, ground := Ground.phase }, { on := 17, ground := Ground.phase }, { on := 18, ground := Ground.phase }, { on := 19, ground := Ground.phase }, { on := 20, ground := Ground.phase }, { on := 21, ground := Ground.phase }, { on := 22, ground := Ground.phase }, { on := 23, ground := Ground.phase }, { on := 24, ground := Ground.phase }, { on := 25, ground := Ground.phase }, { on := 26, ground := Ground.phase }, { on := 27, ground := Ground.phase }, { on := 28, ground := Ground.phase }, { on := 29, ground := Ground.phase }, { on := 30, ground := Ground.phase }, { on := 31, ground := Ground.phase }, { on := 32, ground := Ground.phase }, { on := 33, ground := Ground.phase }, { on := 34, ground := Ground.phase }, { on := 35, ground := Ground.phase }, { on := 36, ground := Ground.phase }, { on := 37, ground := Ground.phase }, { on := 38, ground := Ground.phase }, { on := 39, ground := Ground.phase }, { on := 40, ground := Ground.phase }, { on := 41, ground := Ground.phase }, { on := 42, ground := Ground.phase }, { on := 43, ground := Ground.phase }, { on := 44, ground := Ground.phase }, { on := 45, ground := Ground.phase }, { on := 46, ground := Ground.phase }, { on := 47, ground := Ground.phase }, { on := 48, ground := Ground.phase }, { on := 49, ground := Ground.phase }, { on := 50, ground := Ground.phase }, { on := 51, ground := Ground.phase }, { on := 52, ground := Ground.phase }, { on := 53, ground := Ground.phase }, { on := 54, ground := Ground.phase }], guard := none }) (v := .bool true) rfl (by kernel_rfl) (by kernel_rfl) (by kernel_rfl) (fun _ _ _ h => h) (Or.inl ⟨by rfl, ?hy55_36⟩) (by assumption) ?rest55_36
      case hy55_36 => (intro w hSw; (try dsimp only at hSw); go_split_ands; go_simp; try with_reducible rfl)
      try simp only [Act.put, List.setIfInBounds_toArray, List.set_cons_zero]
      refine wpAnyH_done (by kernel_rfl) ?_ _
      go_wp2_with fail
      go_ret
      exact ⟨rfl, HF.out⟩
    · refine (if_pos (by rfl)).mpr ?_
      refine wp_makeO u8ty (.const (.int .i64 11)) (.const (.int .i64 11)) rfl rfl rfl (by omega) (by omega) (by omega) (by omega) (base := x15.heap.size) (Nat.le_refl _) ?_
      intro gm nm cm x19 hnm hcm hom hbm _ hgm
      obtain rfl : nm = 11 := by omega
      obtain rfl : cm = 11 := by omega
      have HM := Lib.hid (And.intro (And.intro hom.rd (by rw [hgm]; exact fun i hi => (HA.out.2.1 i hi).2 : ∀ i, _ → i < gm)) (And.intro (by rw [hgm]; exact Nat.le_refl _ : x15.heap.size ≤ gm) (by obtain ⟨g', e', _, h'⟩ := hom.at0 (by omega); injection e' with e'; injection e' with e'; omega : gm < x19.heap.size)))
      replace HA := Lib.hid (HA.out.below hbm)
      clear hnm hcm hom hbm hgm
      refine hK.out _ _ trivial (fun _ => ?_)
      clear hK K
      try simp only [Act.put, List.setIfInBounds_toArray, List.set_cons_zero, List.set_cons_succ]
      refine wpAnyH_ready (rs := [50]) (by kernel_rfl) (by simp) ?_
      refine AllReadyH.cons (o := { dst := some 89, op := Op.call { callee := Callee.value (Operand.func 19), args := #[Operand.const (Value.int IntKind.i64 5)], argTypes := #[3] }, type := 40, pos := "law.go:72", after := #[{ on := 48, ground := Ground.chain }, { on := 48, ground := Ground.guard }], guard := some (48, true) }) rfl (fun K hK => ?_) AllReadyH.nil
      go_simp
      refine (sum_of 5 _).mono ?_
      rintro e x20 ⟨rfl, hb⟩
      replace HA := Lib.hid (HA.out.below hb)
      replace HM := Lib.hid (And.intro (And.intro ((HM.out.1.1.below hb (Nat.le_refl _)).more hb.size) HM.out.1.2) HM.out.2)
      clear hb
      rw [HS5.out]
      go_wp2_with fail
      refine hK.out _ _ trivial (fun _ => ?_)
      clear hK K
      try simp only [Act.put, List.setIfInBounds_toArray, List.set_cons_zero, List.set_cons_succ]
      refine wpAnyH_ready (rs := [52]) (by kernel_rfl) (by simp) ?_
      refine AllReadyH.cons (o := { dst := some 91, op := Op.call { callee := Callee.value (Operand.func 29), args := #[Operand.tmp 88, Operand.tmp 89, Operand.tmp 90], argTypes := #[23, 40, 32] }, type := 24, pos := "law.go:72", after := #[{ on := 49, ground := Ground.data }, { on := 50, ground := Ground.data }, { on := 51, ground := Ground.data }, { on := 50, ground := Ground.chain }, { on := 48, ground := Ground.guard }], guard := some (48, true) }) rfl (fun K hK => ?_) AllReadyH.nil
      go_simp
      rw [← HS5.out]
      refine (put_at (sumOf 5) (List.replicate 11 0) _ 11 11 _ x20 (sumOf_len 5) HA.out (by have := HM.out.1.1; simpa [bv] using this) (fun i e _ hO => by injection e with e; have := HM.out.1.2 i hO; subst e; simp at this) (Nat.le_refl _) (by omega)).mono ?_
      rintro e x21 ⟨O7, rfl, h, _⟩
      rw [st7.2.2, HS5.out]
      have hfin := h.2.2
      have HF := Lib.hid hfin
      clear h hfin HM HA
      go_wp2_with fail
      refine hK.out _ _ trivial (fun _ => ?_)
      clear hK K
      try simp only [Act.put, List.setIfInBounds_toArray, List.set_cons_zero, List.set_cons_succ]
      refine wpAnyH_take (i := 53) (oi := { dst := some 92, op := Op.binOp BinOp.eql 24 (Operand.tmp 91) (Operand.const (Value.int IntKind.i64 7)) 24, type := 4, pos := "law.go:72", after := #[{ on := 52, ground := Ground.data }, { on := 48, ground := Ground.guard }], guard := some (48, true) }) (v := .bool true) rfl (by kernel_rfl) (by kernel_rfl) (by kernel_rfl) (fun _ _ _ h => h) (Or.inl ⟨by rfl, ?hy53_37⟩) (by assumption) ?rest53_37
      case hy53_37 => (intro w hSw; (try dsimp only at hSw); go_split_ands; go_simp; try with_reducible rfl)
      try simp only [Act.put, List.setIfInBounds_toArray, List.set_cons_zero, List.set_cons_succ]
      refine wpAnyH_take (i := 54) (oi := { dst := some 93, op := Op.pick (Operand.tmp 87) (Operand.tmp 92) (Operand.const (Value.bool false)), type := 4, pos := "law.go:72", after := #[{ on := 48, ground := Ground.data }, { on := 53, ground := Ground.data }], guard := none }) (v := .bool true) rfl (by kernel_rfl) (by kernel_rfl) (by kernel_rfl) (fun _ _ _ h => h) (Or.inl ⟨by rfl, ?hy54_38⟩) (by assumption) ?rest54_38
      case hy54_38 => (intro w hSw; (try dsimp only at hSw); go_split_ands; go_simp; try with_reducible rfl)
      try simp only [Act.put, List.setIfInBounds_toArray, List.set_cons_zero, List.set_cons_succ]
      refine wpAnyH_take (i := 55) (oi := { dst := some 0, op := Op.assign (Operand.tmp 93), type := 4, pos := "law.go:72", after := #[{ on := 54, ground := Ground.data }, { on := 52, ground := Ground.chain }, { on := 0, ground := Ground.phase }, { on := 1, ground := Ground.phase }, { on := 2, ground := Ground.phase }, { on := 3, ground := Ground.phase }, { on := 4, ground := Ground.phase }, { on := 5, ground := Ground.phase }, { on := 6, ground := Ground.phase }, { on := 7, ground := Ground.phase }, { on := 8, ground := Ground.phase }, { on := 9, ground := Ground.phase }, { on := 10, ground := Ground.phase }, { on := 11, ground := Ground.phase }, { on := 12, ground := Ground.phase }, { on := 13, ground := Ground.phase }, { on := 14, ground := Ground.phase }, { on := 15, ground := Ground.phase }, { on := 16, ground := Ground.phase }, { on := 17, ground := Ground.phase }, { on := 18, ground := Ground.phase }, { on := 19, ground := Ground.phase }, { on := 20, ground := Ground.phase }, { on := 21, ground := Ground.phase }, { on := 22, ground := Ground.phase }, { on := 23, ground := Ground.phase }, { on := 24, ground := Ground.phase }, { on := 25, ground := Ground.phase }, { on := 26, ground := Ground.phase }, { on := 27, ground := Ground.phase }, { on := 28, ground := Ground.phase }, { on := 29, ground := Ground.phase }, { on := 30, ground := Ground.phase }, { on := 31, ground := Ground.phase }, { on := 32, ground := Ground.phase }, { on := 33, ground := Ground.phase }, { on := 34, ground := Ground.phase }, { on := 35, ground := Ground.phase }, { on := 36, ground := Ground.phase }, { on := 37, ground := Ground.phase }, { on := 38, ground := Ground.phase }, { on := 39, ground := Ground.phase }, { on := 40, ground := Ground.phase }, { on := 41, ground := Ground.phase }, { on := 42, ground := Ground.phase }, { on := 43, ground := Ground.phase }, { on := 44, ground := Ground.phase }, { on := 45, ground := Ground.phase }, { on := 46, ground := Ground.phase }, { on := 47, ground := Ground.phase }, { on := 48, ground := Ground.phase }, { on := 49, ground := Ground.phase }, { on := 50, ground := Ground.phase }, { on := 51, ground := Ground.phase }, { on := 52, ground := Ground.phase }, { on := 53, ground := Ground.phase }, { on := 54, ground := Ground.phase }], guard := none }) (v := .bool true) rfl (by kernel_rfl) (by kernel_rfl) (by kernel_rfl) (fun _ _ _ h => h) (Or.inl ⟨by rfl, ?hy55_39⟩) (by assumption) ?rest55_39
      case hy55_39 => (intro w hSw; (try dsimp only at hSw); go_split_ands; go_simp; try with_reducible rfl)
      try simp only [Act.put, List.setIfInBounds_toArray, List.set_cons_zero]
      refine wpAnyH_done (by kernel_rfl) ?_ _
      go_wp2_with fail
      go_ret
      exact ⟨rfl, HF.out⟩
  · refine (if_pos (by rfl)).mpr ?_
    unfold Oper.wp
    go_simp
    have hg : (x7.alloc (.cells #[.int .u8 100] 5)).heap[x7.heap.size]? = some (.cells #[.int .u8 100] 5) := World.alloc_heap_new _ _
    have HG := Lib.hid (And.intro hg (And.intro (fun i hi => (HA.out.2.1 i hi).2) (by simp) : (∀ i, OO i → i < x7.heap.size) ∧ x7.heap.size < (x7.alloc (.cells #[.int .u8 100] 5)).heap.size))
    replace HA := Lib.hid (HA.out.alloc (.cells #[.int .u8 100] 5))
    obtain ⟨x22, hx⟩ : ∃ z, x7.alloc (.cells #[.int .u8 100] 5) = z := ⟨_, rfl⟩
    obtain ⟨g9, hg9⟩ : ∃ z, x7.heap.size = z := ⟨_, rfl⟩
    rw [hx] at HA HG ⊢
    rw [hg9] at HG ⊢
    clear hx hg9 hg
    refine hK.out _ _ trivial (fun _ => ?_)
    clear hK K
    try simp only [Act.put, List.setIfInBounds_toArray, List.set_cons_zero, List.set_cons_succ]
    refine wpAnyH_ready (rs := [31, 33]) (by kernel_rfl) (by simp) ?_
    refine AllReadyH.cons (o := { dst := some 70, op := Op.call { callee := Callee.value (Operand.func 19), args := #[Operand.const (Value.int IntKind.i64 4)], argTypes := #[3] }, type := 40, pos := "law.go:72", after := #[{ on := 29, ground := Ground.chain }, { on := 29, ground := Ground.guard }], guard := some (29, true) }) rfl (fun K hK => ?_) (AllReadyH.cons (o := { dst := some 72, op := Op.convert 32 32 (Operand.tmp 71), type := 32, pos := "law.go:72", after := #[{ on := 32, ground := Ground.data }, { on := 29, ground := Ground.guard }], guard := some (29, true) }) rfl (fun K hK => ?_) AllReadyH.nil)
    · go_simp
      refine (sum_of 4 _).mono ?_
      rintro e x23 ⟨rfl, hb⟩
      skip
      replace HA := Lib.hid (HA.out.below hb)
      replace HG := Lib.hid (And.intro ((hb.block _ (HG.out.2.2)).trans HG.out.1) (And.intro HG.out.2.1 (Nat.lt_of_lt_of_le HG.out.2.2 hb.size)))
      clear hb
      rw [HS4.out]
      go_wp2_with fail
      refine hK.out _ _ trivial (fun _ => ?_)
      clear hK K
      try simp only [Act.put, List.setIfInBounds_toArray, List.set_cons_zero, List.set_cons_succ]
      refine wpAnyH_ready (rs := [33]) (by kernel_rfl) (by simp) ?_
      refine AllReadyH.cons (o := { dst := some 72, op := Op.convert 32 32 (Operand.tmp 71), type := 32, pos := "law.go:72", after := #[{ on := 32, ground := Ground.data }, { on := 29, ground := Ground.guard }], guard := some (29, true) }) rfl (fun K hK => ?_) AllReadyH.nil
      refine (if_pos (by rfl)).mpr ?_
      obtain ⟨x24, hcv, hkv, hgv⟩ := cvt_at x23 g9 100 HG.out.1
      refine wp_conv 32 32 (.tmp 71) rfl _ x24 hcv ?_
      replace HA := Lib.hid (HA.out.other hkv (fun i hi e => by have := HG.out.2.1 i hi; omega) (by have h1 := HA.out.2.1 s HA.out.1.os; have h2 := HG.out.2.1 s HA.out.1.os; omega))
      replace HG := Lib.hid (And.intro hgv (And.intro HG.out.2.1 (Nat.lt_of_lt_of_le HG.out.2.2 hkv.size)))
      clear hcv hkv hgv
      refine hK.out _ _ trivial (fun _ => ?_)
      clear hK K
      try simp only [Act.put, List.setIfInBounds_toArray, List.set_cons_zero, List.set_cons_succ]
      refine wpAnyH_ready (rs := [34]) (by kernel_rfl) (by simp) ?_
      refine AllReadyH.cons (o := { dst := some 73, op := Op.call { callee := Callee.value (Operand.func 29), args := #[Operand.tmp 69, Operand.tmp 70, Operand.tmp 72], argTypes := #[23, 40, 32] }, type := 24, pos := "law.go:72", after := #[{ on := 30, ground := Ground.data }, { on := 31, ground := Ground.data }, { on := 33, ground := Ground.data }, { on := 31, ground := Ground.chain }, { on := 29, ground := Ground.guard }], guard := some (29, true) }) rfl (fun K hK => ?_) AllReadyH.nil
      go_simp
      rw [← HS4.out]
      refine (put_at (sumOf 4) [100] _ 1 1 _ x24 (sumOf_len 4) HA.out (lit_rd HG.out.1) (fun i e _ hO => by injection e with e; have := HG.out.2.1 i hO; subst e; simp at this) (Nat.le_refl _) (by omega)).mono ?_
      rintro e x25 ⟨O6, rfl, h, _⟩
      rw [st6.1] at h
      rw [st6.2, HS4.out]
      replace HA := Lib.hid h
      clear h HG
      go_wp2_with fail
      refine hK.out _ _ trivial (fun _ => ?_)
      clear hK K
      try simp only [Act.put, List.setIfInBounds_toArray, List.set_cons_zero, List.set_cons_succ]
      refine wpAnyH_take (i := 35) (oi := { dst := some 74, op := Op.binOp BinOp.eql 24 (Operand.tmp 73) (Operand.const (Value.int IntKind.i64 0)) 24, type := 4, pos := "law.go:72", after := #[{ on := 34, ground := Ground.data }, { on := 29, ground := Ground.guard }], guard := some (29, true) }) (v := .bool true) rfl (by kernel_rfl) (by kernel_rfl) (by kernel_rfl) (fun _ _ _ h => h) (Or.inl ⟨by rfl, ?hy35_40⟩) (by assumption) ?rest35_40
      case hy35_40 => (intro w hSw; (try dsimp only at hSw); go_split_ands; go_simp; try with_reducible rfl)
      try simp only [Act.put, List.setIfInBounds_toArray, List.set_cons_zero, List.set_cons_succ]
      refine wpAnyH_take (i := 36) (oi := { dst := some 75, op := Op.pick (Operand.tmp 68) (Operand.tmp 74) (Operand.const (Value.bool false)), type := 4, pos := "law.go:72", after := #[{ on := 29, ground := Ground.data }, { on := 35, ground := Ground.data }], guard := none }) (v := .bool true) rfl (by kernel_rfl) (by kernel_rfl) (by kernel_rfl) (fun _ _ _ h => h) (Or.inl ⟨by rfl, ?hy36_41⟩) (by assumption) ?rest36_41
      case hy36_41 => (intro w hSw; (try dsimp only at hSw); go_split_ands; go_simp; try with_reducible rfl)
      try simp only [Act.put, List.setIfInBounds_toArray, List.set_cons_zero, List.set_cons_succ]
      refine wpAnyH_take (i := 37) (oi := { dst := some 76, op := Op.move (Operand.tmp 75), type := 4, pos := "law.go:72", after := #[{ on := 36, ground := Ground.data }, { on := 34, ground := Ground.chain }], guard := none }) (v := .bool true) rfl (by kernel_rfl) (by kernel_rfl) (by kernel_rfl) (fun _ _ _ h => h) (Or.inl ⟨by rfl, ?hy37_42⟩) (by assumption) ?rest37_42
      case hy37_42 => (intro w hSw; (try dsimp only at hSw); go_split_ands; go_simp; try with_reducible rfl)
      try simp only [Act.put, List.setIfInBounds_toArray, List.set_cons_zero, List.set_cons_succ]
      refine wpAnyH_take (i := 38) (oi := { dst := some 77, op := Op.move (Operand.tmp 1), type := 23, pos := "law.go:72", after := #[{ on := 37, ground := Ground.guard }], guard := some (37, true) }) (v := .pointer (some ⟨s, 0, none⟩)) rfl (by kernel_rfl) (by kernel_rfl) (by kernel_rfl) (fun _ _ _ h => h) (Or.inl ⟨by rfl, ?hy38_43⟩) (by assumption) ?rest38_43
      case hy38_43 => (intro w hSw; (try dsimp only at hSw); go_split_ands; go_simp; try with_reducible rfl)
      try simp only [Act.put, List.setIfInBounds_toArray, List.set_cons_zero, List.set_cons_succ]
      refine wpAnyH_ready (rs := [39]) (by kernel_rfl) (by simp) ?_
      refine AllReadyH.cons (o := { dst := some 78, op := Op.call { callee := Callee.value (Operand.func 19), args := #[Operand.const (Value.int IntKind.i64 1)], argTypes := #[3] }, type := 40, pos := "law.go:72", after := #[{ on := 37, ground := Ground.chain }, { on := 37, ground := Ground.guard }], guard := some (37, true) }) rfl (fun K hK => ?_) AllReadyH.nil
      go_simp
      refine (sum_of 1 _).mono ?_
      rintro e x26 ⟨rfl, hb⟩
      replace HA := Lib.hid (HA.out.below hb)
      clear hb
      rw [HS1.out]
      go_wp2_with fail
      refine hK.out _ _ trivial (fun _ => ?_)
      clear hK K
      try simp only [Act.put, List.setIfInBounds_toArray, List.set_cons_zero, List.set_cons_succ]
      refine wpAnyH_ready (rs := [40]) (by kernel_rfl) (by simp) ?_
      refine AllReadyH.cons (o := { dst := some 79, op := Op.call { callee := Callee.value (Operand.func 37), args := #[Operand.tmp 77, Operand.tmp 78], argTypes := #[23, 40] }, type := 4, pos := "law.go:72", after := #[{ on := 38, ground := Ground.data }, { on := 39, ground := Ground.data }, { on := 39, ground := Ground.chain }, { on := 37, ground := Ground.guard }], guard := some (37, true) }) rfl (fun K hK => ?_) AllReadyH.nil
      go_simp
      rw [← HS1.out]
      refine (has_any (sumOf 1) x26 (sumOf_len 1) HA.out.1).mono ?_
      rintro e x27 ⟨rfl, hb⟩
      rw [st7.1, HS1.out]
      replace HA := Lib.hid (HA.out.below hb)
      clear hb
      go_wp2_with fail
      refine hK.out _ _ trivial (fun _ => ?_)
      clear hK K
      try simp only [Act.put, List.setIfInBounds_toArray, List.set_cons_zero, List.set_cons_succ]
      refine wpAnyH_take (i := 41) (oi := { dst := some 80, op := Op.pick (Operand.tmp 76) (Operand.tmp 79) (Operand.const (Value.bool false)), type := 4, pos := "law.go:72", after := #[{ on := 37, ground := Ground.data }, { on := 40, ground := Ground.data }], guard := none }) (v := .bool true) rfl (by kernel_rfl) (by kernel_rfl) (by kernel_rfl) (fun _ _ _ h => h) (Or.inl ⟨by rfl, ?hy41_44⟩) (by assumption) ?rest41_44
      case hy41_44 => (intro w hSw; (try dsimp only at hSw); go_split_ands; go_simp; try with_reducible rfl)
      try simp only [Act.put, List.setIfInBounds_toArray, List.set_cons_zero, List.set_cons_succ]
      refine wpAnyH_take (i := 42) (oi := { dst := some 81, op := Op.move (Operand.tmp 80), type := 4, pos := "law.go:72", after := #[{ on := 41, ground := Ground.data }, { on := 40, ground := Ground.chain }], guard := none }) (v := .bool true) rfl (by kernel_rfl) (by kernel_rfl) (by kernel_rfl) (fun _ _ _ h => h) (Or.inl ⟨by rfl, ?hy42_45⟩) (by assumption) ?rest42_45
      case hy42_45 => (intro w hSw; (try dsimp only at hSw); go_split_ands; go_simp; try with_reducible rfl)
      try simp only [Act.put, List.setIfInBounds_toArray, List.set_cons_zero, List.set_cons_succ]
      refine wpAnyH_take (i := 43) (oi := { dst := some 82, op := Op.move (Operand.tmp 1), type := 23, pos := "law.go:72", after := #[{ on := 42, ground := Ground.guard }], guard := some (42, true) }) (v := .pointer (some ⟨s, 0, none⟩)) rfl (by kernel_rfl) (by kernel_rfl) (by kernel_rfl) (fun _ _ _ h => h) (Or.inl ⟨by rfl, ?hy43_46⟩) (by assumption) ?rest43_46
      case hy43_46 => (intro w hSw; (try dsimp only at hSw); go_split_ands; go_simp; try with_reducible rfl)
      try simp only [Act.put, List.setIfInBounds_toArray, List.set_cons_zero, List.set_cons_succ]
      refine wpAnyH_ready (rs := [44]) (by kernel_rfl) (by simp) ?_
      refine AllReadyH.cons (o := { dst := some 83, op := Op.call { callee := Callee.value (Operand.func 19), args := #[Operand.const (Value.int IntKind.i64 3)], argTypes := #[3] }, type := 40, pos := "law.go:72", after := #[{ on := 42, ground := Ground.chain }, { on := 42, ground := Ground.guard }], guard := some (42, true) }) rfl (fun K hK => ?_) AllReadyH.nil
      go_simp
      refine (sum_of 3 _).mono ?_
      rintro e x28 ⟨rfl, hb⟩
      replace HA := Lib.hid (HA.out.below hb)
      clear hb
      rw [HS3.out]
      go_wp2_with fail
      refine hK.out _ _ trivial (fun _ => ?_)
      clear hK K
      try simp only [Act.put, List.setIfInBounds_toArray, List.set_cons_zero, List.set_cons_succ]
      refine wpAnyH_ready (rs := [45]) (by kernel_rfl) (by simp) ?_
      refine AllReadyH.cons (o := { dst := some 84, op := Op.call { callee := Callee.value (Operand.func 37), args := #[Operand.tmp 82, Operand.tmp 83], argTypes := #[23, 40] }, type := 4, pos := "law.go:72", after := #[{ on := 43, ground := Ground.data }, { on := 44, ground := Ground.data }, { on := 44, ground := Ground.chain }, { on := 42, ground := Ground.guard }], guard := some (42, true) }) rfl (fun K hK => ?_) AllReadyH.nil
      go_simp
      rw [← HS3.out]
      refine (has_any (sumOf 3) x28 (sumOf_len 3) HA.out.1).mono ?_
      rintro e x29 ⟨rfl, hb⟩
      rw [st7.2.1, HS3.out]
      replace HA := Lib.hid (HA.out.below hb)
      clear hb
      go_wp2_with fail
      refine hK.out _ _ trivial (fun _ => ?_)
      clear hK K
      try simp only [Act.put, List.setIfInBounds_toArray, List.set_cons_zero, List.set_cons_succ]
      refine wpAnyH_take (i := 46) (oi := { dst := some 85, op := Op.unOp UnOp.not 4 (Operand.tmp 84), type := 4, pos := "law.go:72", after := #[{ on := 45, ground := Ground.data }, { on := 42, ground := Ground.guard }], guard := some (42, true) }) (v := .bool true) rfl (by kernel_rfl) (by kernel_rfl) (by kernel_rfl) (fun _ _ _ h => h) (Or.inl ⟨by rfl, ?hy46_47⟩) (by assumption) ?rest46_47
      case hy46_47 => (intro w hSw; (try dsimp only at hSw); go_split_ands; go_simp; try with_reducible rfl)
      try simp only [Act.put, List.setIfInBounds_toArray, List.set_cons_zero, List.set_cons_succ]
      refine wpAnyH_take (i := 47) (oi := { dst := some 86, op := Op.pick (Operand.tmp 81) (Operand.tmp 85) (Operand.const (Value.bool false)), type := 4, pos := "law.go:72", after := #[{ on := 42, ground := Ground.data }, { on := 46, ground := Ground.data }], guard := none }) (v := .bool true) rfl (by kernel_rfl) (by kernel_rfl) (by kernel_rfl) (fun _ _ _ h => h) (Or.inl ⟨by rfl, ?hy47_48⟩) (by assumption) ?rest47_48
      case hy47_48 => (intro w hSw; (try dsimp only at hSw); go_split_ands; go_simp; try with_reducible rfl)
      try simp only [Act.put, List.setIfInBounds_toArray, List.set_cons_zero, List.set_cons_succ]
      refine wpAnyH_take (i := 48) (oi := { dst := some 87, op := Op.move (Operand.tmp 86), type := 4, pos := "law.go:72", after := #[{ on := 47, ground := Ground.data }, { on := 45, ground := Ground.chain }], guard := none }) (v := .bool true) rfl (by kernel_rfl) (by kernel_rfl) (by kernel_rfl) (fun _ _ _ h => h) (Or.inl ⟨by rfl, ?hy48_49⟩) (by assumption) ?rest48_49
      case hy48_49 => (intro w hSw; (try dsimp only at hSw); go_split_ands; go_simp; try with_reducible rfl)
      try simp only [Act.put, List.setIfInBounds_toArray, List.set_cons_zero, List.set_cons_succ]
      refine wpAnyH_take (i := 49) (oi := { dst := some 88, op := Op.move (Operand.tmp 1), type := 23, pos := "law.go:72", after := #[{ on := 48, ground := Ground.guard }], guard := some (48, true) }) (v := .pointer (some ⟨s, 0, none⟩)) rfl (by kernel_rfl) (by kernel_rfl) (by kernel_rfl) (fun _ _ _ h => h) (Or.inl ⟨by rfl, ?hy49_50⟩) (by assumption) ?rest49_50
      case hy49_50 => (intro w hSw; (try dsimp only at hSw); go_split_ands; go_simp; try with_reducible rfl)
      try simp only [Act.put, List.setIfInBounds_toArray, List.set_cons_zero, List.set_cons_succ]
      refine wpAnyH_ready (rs := [50, 51]) (by kernel_rfl) (by simp) ?_
      refine AllReadyH.cons (o := { dst := some 89, op := Op.call { callee := Callee.value (Operand.func 19), args := #[Operand.const (Value.int IntKind.i64 5)], argTypes := #[3] }, type := 40, pos := "law.go:72", after := #[{ on := 48, ground := Ground.chain }, { on := 48, ground := Ground.guard }], guard := some (48, true) }) rfl (fun K hK => ?_) (AllReadyH.cons (o := { dst := some 90, op := Op.makeSlice 32 (Operand.const (Value.int IntKind.i64 11)) (Operand.const (Value.int IntKind.i64 11)), type := 32, pos := "law.go:72", after := #[{ on := 48, ground := Ground.guard }], guard := some (48, true) }) rfl (fun K hK => ?_) AllReadyH.nil)
      · go_simp
        refine (sum_of 5 _).mono ?_
        rintro e x30 ⟨rfl, hb⟩
        replace HA := Lib.hid (HA.out.below hb)
        clear hb
        rw [HS5.out]
        go_wp2_with fail
        refine hK.out _ _ trivial (fun _ => ?_)
        clear hK K
        try simp only [Act.put, List.setIfInBounds_toArray, List.set_cons_zero, List.set_cons_succ]
        refine wpAnyH_ready (rs := [51]) (by kernel_rfl) (by simp) ?_
        refine AllReadyH.cons (o := { dst := some 90, op := Op.makeSlice 32 (Operand.const (Value.int IntKind.i64 11)) (Operand.const (Value.int IntKind.i64 11)), type := 32, pos := "law.go:72", after := #[{ on := 48, ground := Ground.guard }], guard := some (48, true) }) rfl (fun K hK => ?_) AllReadyH.nil
        refine (if_pos (by rfl)).mpr ?_
        refine wp_makeO u8ty (.const (.int .i64 11)) (.const (.int .i64 11)) rfl rfl rfl (by omega) (by omega) (by omega) (by omega) (base := x30.heap.size) (Nat.le_refl _) ?_
        intro gm nm cm x31 hnm hcm hom hbm _ hgm
        obtain rfl : nm = 11 := by omega
        obtain rfl : cm = 11 := by omega
        have HM := Lib.hid (And.intro (And.intro hom.rd (by rw [hgm]; exact fun i hi => (HA.out.2.1 i hi).2 : ∀ i, _ → i < gm)) (And.intro (by rw [hgm]; exact Nat.le_refl _ : x30.heap.size ≤ gm) (by obtain ⟨g', e', _, h'⟩ := hom.at0 (by omega); injection e' with e'; injection e' with e'; omega : gm < x31.heap.size)))
        replace HA := Lib.hid (HA.out.below hbm)
        clear hnm hcm hom hbm hgm
        refine hK.out _ _ trivial (fun _ => ?_)
        clear hK K
        try simp only [Act.put, List.setIfInBounds_toArray, List.set_cons_zero, List.set_cons_succ]
        refine wpAnyH_ready (rs := [52]) (by kernel_rfl) (by simp) ?_
        refine AllReadyH.cons (o := { dst := some 91, op := Op.call { callee := Callee.value (Operand.func 29), args := #[Operand.tmp 88, Operand.tmp 89, Operand.tmp 90], argTypes := #[23, 40, 32] }, type := 24, pos := "law.go:72", after := #[{ on := 49, ground := Ground.data }, { on := 50, ground := Ground.data }, { on := 51, ground := Ground.data }, { on := 50, ground := Ground.chain }, { on := 48, ground := Ground.guard }], guard := some (48, true) }) rfl (fun K hK => ?_) AllReadyH.nil
        go_simp
        rw [← HS5.out]
        refine (put_at (sumOf 5) (List.replicate 11 0) _ 11 11 _ x31 (sumOf_len 5) HA.out (by have := HM.out.1.1; simpa [bv] using this) (fun i e _ hO => by injection e with e; have := HM.out.1.2 i hO; subst e; simp at this) (Nat.le_refl _) (by omega)).mono ?_
        rintro e x32 ⟨O7, rfl, h, _⟩
        rw [st7.2.2, HS5.out]
        have hfin := h.2.2
        have HF := Lib.hid hfin
        clear h hfin HM HA
        go_wp2_with fail
        refine hK.out _ _ trivial (fun _ => ?_)
        clear hK K
        try simp only [Act.put, List.setIfInBounds_toArray, List.set_cons_zero, List.set_cons_succ]
        refine wpAnyH_take (i := 53) (oi := { dst := some 92, op := Op.binOp BinOp.eql 24 (Operand.tmp 91) (Operand.const (Value.int IntKind.i64 7)) 24, type := 4, pos := "law.go:72", after := #[{ on := 52, ground := Ground.data }, { on := 48, ground := Ground.guard }], guard := some (48, true) }) (v := .bool true) rfl (by kernel_rfl) (by kernel_rfl) (by kernel_rfl) (fun _ _ _ h => h) (Or.inl ⟨by rfl, ?hy53_51⟩) (by assumption) ?rest53_51
        case hy53_51 => (intro w hSw; (try dsimp only at hSw); go_split_ands; go_simp; try with_reducible rfl)
        try simp only [Act.put, List.setIfInBounds_toArray, List.set_cons_zero, List.set_cons_succ]
        refine wpAnyH_take (i := 54) (oi := { dst := some 93, op := Op.pick (Operand.tmp 87) (Operand.tmp 92) (Operand.const (Value.bool false)), type := 4, pos := "law.go:72", after := #[{ on := 48, ground := Ground.data }, { on := 53, ground := Ground.data }], guard := none }) (v := .bool true) rfl (by kernel_rfl) (by kernel_rfl) (by kernel_rfl) (fun _ _ _ h => h) (Or.inl ⟨by rfl, ?hy54_52⟩) (by assumption) ?rest54_52
        case hy54_52 => (intro w hSw; (try dsimp only at hSw); go_split_ands; go_simp; try with_reducible rfl)
        try simp only [Act.put, List.setIfInBounds_toArray, List.set_cons_zero, List.set_cons_succ]
        refine wpAnyH_take (i := 55) (oi := { dst := some 0, op := Op.assign (Operand.tmp 93), type := 4, pos := "law.go:72", after := #[{ on := 54, ground := Ground.data }, { on := 52, ground := Ground.chain }, { on := 0, ground := Ground.phase }, { on := 1, ground := Ground.phase }, { on := 2, ground := Ground.phase }, { on := 3, ground := Ground.phase }, { on := 4, ground := Ground.phase }, { on := 5, ground := Ground.phase }, { on := 6, ground := Ground.phase }, { on := 7, ground := Ground.phase }, { on := 8, ground := Ground.phase }, { on := 9, ground := Ground.phase }, { on := 10, ground := Ground.phase }, { on := 11, ground := Ground.phase }, { on := 12, ground := Ground.phase }, { on := 13, ground := Ground.phase }, { on := 14, ground := Ground.phase }, { on := 15, ground := Ground.phase }, { on := 16, ground := Ground.phase }, { on := 17, ground := Ground.phase }, { on := 18, ground := Ground.phase }, { on := 19, ground := Ground.phase }, { on := 20, ground := Ground.phase }, { on := 21, ground := Ground.phase }, { on := 22, ground := Ground.phase }, { on := 23, ground := Ground.phase }, { on := 24, ground := Ground.phase }, { on := 25, ground := Ground.phase }, { on := 26, ground := Ground.phase }, { on := 27, ground := Ground.phase }, { on := 28, ground := Ground.phase }, { on := 29, ground := Ground.phase }, { on := 30, ground := Ground.phase }, { on := 31, ground := Ground.phase }, { on := 32, ground := Ground.phase }, { on := 33, ground := Ground.phase }, { on := 34, ground := Ground.phase }, { on := 35, ground := Ground.phase }, { on := 36, ground := Ground.phase }, { on := 37, ground := Ground.phase }, { on := 38, ground := Ground.phase }, { on := 39, ground := Ground.phase }, { on := 40, ground := Ground.phase }, { on := 41, ground := Ground.phase }, { on := 42, ground := Ground.phase }, { on := 43, ground := Ground.phase }, { on := 44, ground := Ground.phase }, { on := 45, ground := Ground.phase }, { on := 46, ground := Ground.phase }, { on := 47, ground := Ground.phase }, { on := 48, ground := Ground.phase }, { on := 49, ground := Ground.phase }, { on := 50, ground := Ground.phase }, { on := 51, ground := Ground.phase }, { on := 52, ground := Ground.phase }, { on := 53, ground := Ground.phase }, { on := 54, ground := Ground.phase }], guard := none }) (v := .bool true) rfl (by kernel_rfl) (by kernel_rfl) (by kernel_rfl) (fun _ _ _ h => h) (Or.inl ⟨by rfl, ?hy55_53⟩) (by assumption) ?rest55_53
        case hy55_53 => (intro w hSw; (try dsimp only at hSw); go_split_ands; go_simp; try with_reducible rfl)
        try simp only [Act.put, List.setIfInBounds_toArray, List.set_cons_zero]
        refine wpAnyH_done (by kernel_rfl) ?_ _
        go_wp2_with fail
        go_ret
        exact ⟨rfl, HF.out⟩
      · refine (if_pos (by rfl)).mpr ?_
        refine wp_makeO u8ty (.const (.int .i64 11)) (.const (.int .i64 11)) rfl rfl rfl (by omega) (by omega) (by omega) (by omega) (base := x29.heap.size) (Nat.le_refl _) ?_
        intro gm nm cm x33 hnm hcm hom hbm _ hgm
        obtain rfl : nm = 11 := by omega
        obtain rfl : cm = 11 := by omega
        have HM := Lib.hid (And.intro (And.intro hom.rd (by rw [hgm]; exact fun i hi => (HA.out.2.1 i hi).2 : ∀ i, _ → i < gm)) (And.intro (by rw [hgm]; exact Nat.le_refl _ : x29.heap.size ≤ gm) (by obtain ⟨g', e', _, h'⟩ := hom.at0 (by omega); injection e' with e'; injection e' with e'; omega : gm < x33.heap.size)))
        replace HA := Lib.hid (HA.out.below hbm)
        clear hnm hcm hom hbm hgm
        refine hK.out _ _ trivial (fun _ => ?_)
        clear hK K
        try simp only [Act.put, List.setIfInBounds_toArray, List.set_cons_zero, List.set_cons_succ]
        refine wpAnyH_ready (rs := [50]) (by kernel_rfl) (by simp) ?_
        refine AllReadyH.cons (o := { dst := some 89, op := Op.call { callee := Callee.value (Operand.func 19), args := #[Operand.const (Value.int IntKind.i64 5)], argTypes := #[3] }, type := 40, pos := "law.go:72", after := #[{ on := 48, ground := Ground.chain }, { on := 48, ground := Ground.guard }], guard := some (48, true) }) rfl (fun K hK => ?_) AllReadyH.nil
        go_simp
        refine (sum_of 5 _).mono ?_
        rintro e x34 ⟨rfl, hb⟩
        replace HA := Lib.hid (HA.out.below hb)
        replace HM := Lib.hid (And.intro (And.intro ((HM.out.1.1.below hb (Nat.le_refl _)).more hb.size) HM.out.1.2) HM.out.2)
        clear hb
        rw [HS5.out]
        go_wp2_with fail
        refine hK.out _ _ trivial (fun _ => ?_)
        clear hK K
        try simp only [Act.put, List.setIfInBounds_toArray, List.set_cons_zero, List.set_cons_succ]
        refine wpAnyH_ready (rs := [52]) (by kernel_rfl) (by simp) ?_
        refine AllReadyH.cons (o := { dst := some 91, op := Op.call { callee := Callee.value (Operand.func 29), args := #[Operand.tmp 88, Operand.tmp 89, Operand.tmp 90], argTypes := #[23, 40, 32] }, type := 24, pos := "law.go:72", after := #[{ on := 49, ground := Ground.data }, { on := 50, ground := Ground.data }, { on := 51, ground := Ground.data }, { on := 50, ground := Ground.chain }, { on := 48, ground := Ground.guard }], guard := some (48, true) }) rfl (fun K hK => ?_) AllReadyH.nil
        go_simp
        rw [← HS5.out]
        refine (put_at (sumOf 5) (List.replicate 11 0) _ 11 11 _ x34 (sumOf_len 5) HA.out (by have := HM.out.1.1; simpa [bv] using this) (fun i e _ hO => by injection e with e; have := HM.out.1.2 i hO; subst e; simp at this) (Nat.le_refl _) (by omega)).mono ?_
        rintro e x35 ⟨O7, rfl, h, _⟩
        rw [st7.2.2, HS5.out]
        have hfin := h.2.2
        have HF := Lib.hid hfin
        clear h hfin HM HA
        go_wp2_with fail
        refine hK.out _ _ trivial (fun _ => ?_)
        clear hK K
        try simp only [Act.put, List.setIfInBounds_toArray, List.set_cons_zero, List.set_cons_succ]
        refine wpAnyH_take (i := 53) (oi := { dst := some 92, op := Op.binOp BinOp.eql 24 (Operand.tmp 91) (Operand.const (Value.int IntKind.i64 7)) 24, type := 4, pos := "law.go:72", after := #[{ on := 52, ground := Ground.data }, { on := 48, ground := Ground.guard }], guard := some (48, true) }) (v := .bool true) rfl (by kernel_rfl) (by kernel_rfl) (by kernel_rfl) (fun _ _ _ h => h) (Or.inl ⟨by rfl, ?hy53_54⟩) (by assumption) ?rest53_54
        case hy53_54 => (intro w hSw; (try dsimp only at hSw); go_split_ands; go_simp; try with_reducible rfl)
        try simp only [Act.put, List.setIfInBounds_toArray, List.set_cons_zero, List.set_cons_succ]
        refine wpAnyH_take (i := 54) (oi := { dst := some 93, op := Op.pick (Operand.tmp 87) (Operand.tmp 92) (Operand.const (Value.bool false)), type := 4, pos := "law.go:72", after := #[{ on := 48, ground := Ground.data }, { on := 53, ground := Ground.data }], guard := none }) (v := .bool true) rfl (by kernel_rfl) (by kernel_rfl) (by kernel_rfl) (fun _ _ _ h => h) (Or.inl ⟨by rfl, ?hy54_55⟩) (by assumption) ?rest54_55
        case hy54_55 => (intro w hSw; (try dsimp only at hSw); go_split_ands; go_simp; try with_reducible rfl)
        try simp only [Act.put, List.setIfInBounds_toArray, List.set_cons_zero, List.set_cons_succ]
        refine wpAnyH_take (i := 55) (oi := { dst := some 0, op := Op.assign (Operand.tmp 93), type := 4, pos := "law.go:72", after := #[{ on := 54, ground := Ground.data }, { on := 52, ground := Ground.chain }, { on := 0, ground := Ground.phase }, { on := 1, ground := Ground.phase }, { on := 2, ground := Ground.phase }, { on := 3, ground := Ground.phase }, { on := 4, ground := Ground.phase }, { on := 5, ground := Ground.phase }, { on := 6, ground := Ground.phase }, { on := 7, ground := Ground.phase }, { on := 8, ground := Ground.phase }, { on := 9, ground := Ground.phase }, { on := 10, ground := Ground.phase }, { on := 11, ground := Ground.phase }, { on := 12, ground := Ground.phase }, { on := 13, ground := Ground.phase }, { on := 14, ground := Ground.phase }, { on := 15, ground := Ground.phase }, { on := 16, ground := Ground.phase }, { on := 17, ground := Ground.phase }, { on := 18, ground := Ground.phase }, { on := 19, ground := Ground.phase }, { on := 20, ground := Ground.phase }, { on := 21, ground := Ground.phase }, { on := 22, ground := Ground.phase }, { on := 23, ground := Ground.phase }, { on := 24, ground := Ground.phase }, { on := 25, ground := Ground.phase }, { on := 26, ground := Ground.phase }, { on := 27, ground := Ground.phase }, { on := 28, ground := Ground.phase }, { on := 29, ground := Ground.phase }, { on := 30, ground := Ground.phase }, { on := 31, ground := Ground.phase }, { on := 32, ground := Ground.phase }, { on := 33, ground := Ground.phase }, { on := 34, ground := Ground.phase }, { on := 35, ground := Ground.phase }, { on := 36, ground := Ground.phase }, { on := 37, ground := Ground.phase }, { on := 38, ground := Ground.phase }, { on := 39, ground := Ground.phase }, { on := 40, ground := Ground.phase }, { on := 41, ground := Ground.phase }, { on := 42, ground := Ground.phase }, { on := 43, ground := Ground.phase }, { on := 44, ground := Ground.phase }, { on := 45, ground := Ground.phase }, { on := 46, ground := Ground.phase }, { on := 47, ground := Ground.phase }, { on := 48, ground := Ground.phase }, { on := 49, ground := Ground.phase }, { on := 50, ground := Ground.phase }, { on := 51, ground := Ground.phase }, { on := 52, ground := Ground.phase }, { on := 53, ground := Ground.phase }, { on := 54, ground := Ground.phase }], guard := none }) (v := .bool true) rfl (by kernel_rfl) (by kernel_rfl) (by kernel_rfl) (fun _ _ _ h => h) (Or.inl ⟨by rfl, ?hy55_56⟩) (by assumption) ?rest55_56
        case hy55_56 => (intro w hSw; (try dsimp only at hSw); go_split_ands; go_simp; try with_reducible rfl)
        try simp only [Act.put, List.setIfInBounds_toArray, List.set_cons_zero]
        refine wpAnyH_done (by kernel_rfl) ?_ _
        go_wp2_with fail
        go_ret
        exact ⟨rfl, HF.out⟩
    · refine (if_pos (by rfl)).mpr ?_
      obtain ⟨x36, hcv, hkv, hgv⟩ := cvt_at x22 g9 100 HG.out.1
      refine wp_conv 32 32 (.tmp 71) rfl _ x36 hcv ?_
      replace HA := Lib.hid (HA.out.other hkv (fun i hi e => by have := HG.out.2.1 i hi; omega) (by have h1 := HA.out.2.1 s HA.out.1.os; have h2 := HG.out.2.1 s HA.out.1.os; omega))
      replace HG := Lib.hid (And.intro hgv (And.intro HG.out.2.1 (Nat.lt_of_lt_of_le HG.out.2.2 hkv.size)))
      clear hcv hkv hgv
      refine hK.out _ _ trivial (fun _ => ?_)
      clear hK K
      try simp only [Act.put, List.setIfInBounds_toArray, List.set_cons_zero, List.set_cons_succ]
      refine wpAnyH_ready (rs := [31]) (by kernel_rfl) (by simp) ?_
      refine AllReadyH.cons (o := { dst := some 70, op := Op.call { callee := Callee.value (Operand.func 19), args := #[Operand.const (Value.int IntKind.i64 4)], argTypes := #[3] }, type := 40, pos := "law.go:72", after := #[{ on := 29, ground := Ground.chain }, { on := 29, ground := Ground.guard }], guard := some (29, true) }) rfl (fun K hK => ?_) AllReadyH.nil
      go_simp
      refine (sum_of 4 _).mono ?_
      rintro e x37 ⟨rfl, hb⟩
      skip
      replace HA := Lib.hid (HA.out.below hb)
      replace HG := Lib.hid (And.intro ((hb.block _ (HG.out.2.2)).trans HG.out.1) (And.intro HG.out.2.1 (Nat.lt_of_lt_of_le HG.out.2.2 hb.size)))
      clear hb
      rw [HS4.out]
      go_wp2_with fail
      refine hK.out _ _ trivial (fun _ => ?_)
      clear hK K
      try simp only [Act.put, List.setIfInBounds_toArray, List.set_cons_zero, List.set_cons_succ]
      refine wpAnyH_ready (rs := [34]) (by kernel_rfl) (by simp) ?_
      refine AllReadyH.cons (o := { dst := some 73, op := Op.call { callee := Callee.value (Operand.func 29), args := #[Operand.tmp 69, Operand.tmp 70, Operand.tmp 72], argTypes := #[23, 40, 32] }, type := 24, pos := "law.go:72", after := #[{ on := 30, ground := Ground.data }, { on := 31, ground := Ground.data }, { on := 33, ground := Ground.data }, { on := 31, ground := Ground.chain }, { on := 29, ground := Ground.guard }], guard := some (29, true) }) rfl (fun K hK => ?_) AllReadyH.nil
      go_simp
      rw [← HS4.out]
      refine (put_at (sumOf 4) [100] _ 1 1 _ x37 (sumOf_len 4) HA.out (lit_rd HG.out.1) (fun i e _ hO => by injection e with e; have := HG.out.2.1 i hO; subst e; simp at this) (Nat.le_refl _) (by omega)).mono ?_
      rintro e x38 ⟨O6, rfl, h, _⟩
      rw [st6.1] at h
      rw [st6.2, HS4.out]
      replace HA := Lib.hid h
      clear h HG
      go_wp2_with fail
      refine hK.out _ _ trivial (fun _ => ?_)
      clear hK K
      try simp only [Act.put, List.setIfInBounds_toArray, List.set_cons_zero, List.set_cons_succ]
      refine wpAnyH_take (i := 35) (oi := { dst := some 74, op := Op.binOp BinOp.eql 24 (Operand.tmp 73) (Operand.const (Value.int IntKind.i64 0)) 24, type := 4, pos := "law.go:72", after := #[{ on := 34, ground := Ground.data }, { on := 29, ground := Ground.guard }], guard := some (29, true) }) (v := .bool true) rfl (by kernel_rfl) (by kernel_rfl) (by kernel_rfl) (fun _ _ _ h => h) (Or.inl ⟨by rfl, ?hy35_57⟩) (by assumption) ?rest35_57
      case hy35_57 => (intro w hSw; (try dsimp only at hSw); go_split_ands; go_simp; try with_reducible rfl)
      try simp only [Act.put, List.setIfInBounds_toArray, List.set_cons_zero, List.set_cons_succ]
      refine wpAnyH_take (i := 36) (oi := { dst := some 75, op := Op.pick (Operand.tmp 68) (Operand.tmp 74) (Operand.const (Value.bool false)), type := 4, pos := "law.go:72", after := #[{ on := 29, ground := Ground.data }, { on := 35, ground := Ground.data }], guard := none }) (v := .bool true) rfl (by kernel_rfl) (by kernel_rfl) (by kernel_rfl) (fun _ _ _ h => h) (Or.inl ⟨by rfl, ?hy36_58⟩) (by assumption) ?rest36_58
      case hy36_58 => (intro w hSw; (try dsimp only at hSw); go_split_ands; go_simp; try with_reducible rfl)
      try simp only [Act.put, List.setIfInBounds_toArray, List.set_cons_zero, List.set_cons_succ]
      refine wpAnyH_take (i := 37) (oi := { dst := some 76, op := Op.move (Operand.tmp 75), type := 4, pos := "law.go:72", after := #[{ on := 36, ground := Ground.data }, { on := 34, ground := Ground.chain }], guard := none }) (v := .bool true) rfl (by kernel_rfl) (by kernel_rfl) (by kernel_rfl) (fun _ _ _ h => h) (Or.inl ⟨by rfl, ?hy37_59⟩) (by assumption) ?rest37_59
      case hy37_59 => (intro w hSw; (try dsimp only at hSw); go_split_ands; go_simp; try with_reducible rfl)
      try simp only [Act.put, List.setIfInBounds_toArray, List.set_cons_zero, List.set_cons_succ]
      refine wpAnyH_take (i := 38) (oi := { dst := some 77, op := Op.move (Operand.tmp 1), type := 23, pos := "law.go:72", after := #[{ on := 37, ground := Ground.guard }], guard := some (37, true) }) (v := .pointer (some ⟨s, 0, none⟩)) rfl (by kernel_rfl) (by kernel_rfl) (by kernel_rfl) (fun _ _ _ h => h) (Or.inl ⟨by rfl, ?hy38_60⟩) (by assumption) ?rest38_60
      case hy38_60 => (intro w hSw; (try dsimp only at hSw); go_split_ands; go_simp; try with_reducible rfl)
      try simp only [Act.put, List.setIfInBounds_toArray, List.set_cons_zero, List.set_cons_succ]
      refine wpAnyH_ready (rs := [39]) (by kernel_rfl) (by simp) ?_
      refine AllReadyH.cons (o := { dst := some 78, op := Op.call { callee := Callee.value (Operand.func 19), args := #[Operand.const (Value.int IntKind.i64 1)], argTypes := #[3] }, type := 40, pos := "law.go:72", after := #[{ on := 37, ground := Ground.chain }, { on := 37, ground := Ground.guard }], guard := some (37, true) }) rfl (fun K hK => ?_) AllReadyH.nil
      go_simp
      refine (sum_of 1 _).mono ?_
      rintro e x39 ⟨rfl, hb⟩
      replace HA := Lib.hid (HA.out.below hb)
      clear hb
      rw [HS1.out]
      go_wp2_with fail
      refine hK.out _ _ trivial (fun _ => ?_)
      clear hK K
      try simp only [Act.put, List.setIfInBounds_toArray, List.set_cons_zero, List.set_cons_succ]
      refine wpAnyH_ready (rs := [40]) (by kernel_rfl) (by simp) ?_
      refine AllReadyH.cons (o := { dst := some 79, op := Op.call { callee := Callee.value (Operand.func 37), args := #[Operand.tmp 77, Operand.tmp 78], argTypes := #[23, 40] }, type := 4, pos := "law.go:72", after := #[{ on := 38, ground := Ground.data }, { on := 39, ground := Ground.data }, { on := 39, ground := Ground.chain }, { on := 37, ground := Ground.guard }], guard := some (37, true) }) rfl (fun K hK => ?_) AllReadyH.nil
      go_simp
      rw [← HS1.out]
      refine (has_any (sumOf 1) x39 (sumOf_len 1) HA.out.1).mono ?_
      rintro e x40 ⟨rfl, hb⟩
      rw [st7.1, HS1.out]
      replace HA := Lib.hid (HA.out.below hb)
      clear hb
      go_wp2_with fail
      refine hK.out _ _ trivial (fun _ => ?_)
      clear hK K
      try simp only [Act.put, List.setIfInBounds_toArray, List.set_cons_zero, List.set_cons_succ]
      refine wpAnyH_take (i := 41) (oi := { dst := some 80, op := Op.pick (Operand.tmp 76) (Operand.tmp 79) (Operand.const (Value.bool false)), type := 4, pos := "law.go:72", after := #[{ on := 37, ground := Ground.data }, { on := 40, ground := Ground.data }], guard := none }) (v := .bool true) rfl (by kernel_rfl) (by kernel_rfl) (by kernel_rfl) (fun _ _ _ h => h) (Or.inl ⟨by rfl, ?hy41_61⟩) (by assumption) ?rest41_61
      case hy41_61 => (intro w hSw; (try dsimp only at hSw); go_split_ands; go_simp; try with_reducible rfl)
      try simp only [Act.put, List.setIfInBounds_toArray, List.set_cons_zero, List.set_cons_succ]
      refine wpAnyH_take (i := 42) (oi := { dst := some 81, op := Op.move (Operand.tmp 80), type := 4, pos := "law.go:72", after := #[{ on := 41, ground := Ground.data }, { on := 40, ground := Ground.chain }], guard := none }) (v := .bool true) rfl (by kernel_rfl) (by kernel_rfl) (by kernel_rfl) (fun _ _ _ h => h) (Or.inl ⟨by rfl, ?hy42_62⟩) (by assumption) ?rest42_62
      case hy42_62 => (intro w hSw; (try dsimp only at hSw); go_split_ands; go_simp; try with_reducible rfl)
      try simp only [Act.put, List.setIfInBounds_toArray, List.set_cons_zero, List.set_cons_succ]
      refine wpAnyH_take (i := 43) (oi := { dst := some 82, op := Op.move (Operand.tmp 1), type := 23, pos := "law.go:72", after := #[{ on := 42, ground := Ground.guard }], guard := some (42, true) }) (v := .pointer (some ⟨s, 0, none⟩)) rfl (by kernel_rfl) (by kernel_rfl) (by kernel_rfl) (fun _ _ _ h => h) (Or.inl ⟨by rfl, ?hy43_63⟩) (by assumption) ?rest43_63
      case hy43_63 => (intro w hSw; (try dsimp only at hSw); go_split_ands; go_simp; try with_reducible rfl)
      try simp only [Act.put, List.setIfInBounds_toArray, List.set_cons_zero, List.set_cons_succ]
      refine wpAnyH_ready (rs := [44]) (by kernel_rfl) (by simp) ?_
      refine AllReadyH.cons (o := { dst := some 83, op := Op.call { callee := Callee.value (Operand.func 19), args := #[Operand.const (Value.int IntKind.i64 3)], argTypes := #[3] }, type := 40, pos := "law.go:72", after := #[{ on := 42, ground := Ground.chain }, { on := 42, ground := Ground.guard }], guard := some (42, true) }) rfl (fun K hK => ?_) AllReadyH.nil
      go_simp
      refine (sum_of 3 _).mono ?_
      rintro e x41 ⟨rfl, hb⟩
      replace HA := Lib.hid (HA.out.below hb)
      clear hb
      rw [HS3.out]
      go_wp2_with fail
      refine hK.out _ _ trivial (fun _ => ?_)
      clear hK K
      try simp only [Act.put, List.setIfInBounds_toArray, List.set_cons_zero, List.set_cons_succ]
      refine wpAnyH_ready (rs := [45]) (by kernel_rfl) (by simp) ?_
      refine AllReadyH.cons (o := { dst := some 84, op := Op.call { callee := Callee.value (Operand.func 37), args := #[Operand.tmp 82, Operand.tmp 83], argTypes := #[23, 40] }, type := 4, pos := "law.go:72", after := #[{ on := 43, ground := Ground.data }, { on := 44, ground := Ground.data }, { on := 44, ground := Ground.chain }, { on := 42, ground := Ground.guard }], guard := some (42, true) }) rfl (fun K hK => ?_) AllReadyH.nil
      go_simp
      rw [← HS3.out]
      refine (has_any (sumOf 3) x41 (sumOf_len 3) HA.out.1).mono ?_
      rintro e x42 ⟨rfl, hb⟩
      rw [st7.2.1, HS3.out]
      replace HA := Lib.hid (HA.out.below hb)
      clear hb
      go_wp2_with fail
      refine hK.out _ _ trivial (fun _ => ?_)
      clear hK K
      try simp only [Act.put, List.setIfInBounds_toArray, List.set_cons_zero, List.set_cons_succ]
      refine wpAnyH_take (i := 46) (oi := { dst := some 85, op := Op.unOp UnOp.not 4 (Operand.tmp 84), type := 4, pos := "law.go:72", after := #[{ on := 45, ground := Ground.data }, { on := 42, ground := Ground.guard }], guard := some (42, true) }) (v := .bool true) rfl (by kernel_rfl) (by kernel_rfl) (by kernel_rfl) (fun _ _ _ h => h) (Or.inl ⟨by rfl, ?hy46_64⟩) (by assumption) ?rest46_64
      case hy46_64 => (intro w hSw; (try dsimp only at hSw); go_split_ands; go_simp; try with_reducible rfl)
      try simp only [Act.put, List.setIfInBounds_toArray, List.set_cons_zero, List.set_cons_succ]
      refine wpAnyH_take (i := 47) (oi := { dst := some 86, op := Op.pick (Operand.tmp 81) (Operand.tmp 85) (Operand.const (Value.bool false)), type := 4, pos := "law.go:72", after := #[{ on := 42, ground := Ground.data }, { on := 46, ground := Ground.data }], guard := none }) (v := .bool true) rfl (by kernel_rfl) (by kernel_rfl) (by kernel_rfl) (fun _ _ _ h => h) (Or.inl ⟨by rfl, ?hy47_65⟩) (by assumption) ?rest47_65
      case hy47_65 => (intro w hSw; (try dsimp only at hSw); go_split_ands; go_simp; try with_reducible rfl)
      try simp only [Act.put, List.setIfInBounds_toArray, List.set_cons_zero, List.set_cons_succ]
      refine wpAnyH_take (i := 48) (oi := { dst := some 87, op := Op.move (Operand.tmp 86), type := 4, pos := "law.go:72", after := #[{ on := 47, ground := Ground.data }, { on := 45, ground := Ground.chain }], guard := none }) (v := .bool true) rfl (by kernel_rfl) (by kernel_rfl) (by kernel_rfl) (fun _ _ _ h => h) (Or.inl ⟨by rfl, ?hy48_66⟩) (by assumption) ?rest48_66
      case hy48_66 => (intro w hSw; (try dsimp only at hSw); go_split_ands; go_simp; try with_reducible rfl)
      try simp only [Act.put, List.setIfInBounds_toArray, List.set_cons_zero, List.set_cons_succ]
      refine wpAnyH_take (i := 49) (oi := { dst := some 88, op := Op.move (Operand.tmp 1), type := 23, pos := "law.go:72", after := #[{ on := 48, ground := Ground.guard }], guard := some (48, true) }) (v := .pointer (some ⟨s, 0, none⟩)) rfl (by kernel_rfl) (by kernel_rfl) (by kernel_rfl) (fun _ _ _ h => h) (Or.inl ⟨by rfl, ?hy49_67⟩) (by assumption) ?rest49_67
      case hy49_67 => (intro w hSw; (try dsimp only at hSw); go_split_ands; go_simp; try with_reducible rfl)
      try simp only [Act.put, List.setIfInBounds_toArray, List.set_cons_zero, List.set_cons_succ]
      refine wpAnyH_ready (rs := [50, 51]) (by kernel_rfl) (by simp) ?_
      refine AllReadyH.cons (o := { dst := some 89, op := Op.call { callee := Callee.value (Operand.func 19), args := #[Operand.const (Value.int IntKind.i64 5)], argTypes := #[3] }, type := 40, pos := "law.go:72", after := #[{ on := 48, ground := Ground.chain }, { on := 48, ground := Ground.guard }], guard := some (48, true) }) rfl (fun K hK => ?_) (AllReadyH.cons (o := { dst := some 90, op := Op.makeSlice 32 (Operand.const (Value.int IntKind.i64 11)) (Operand.const (Value.int IntKind.i64 11)), type := 32, pos := "law.go:72", after := #[{ on := 48, ground := Ground.guard }], guard := some (48, true) }) rfl (fun K hK => ?_) AllReadyH.nil)
      · go_simp
        refine (sum_of 5 _).mono ?_
        rintro e x43 ⟨rfl, hb⟩
        replace HA := Lib.hid (HA.out.below hb)
        clear hb
        rw [HS5.out]
        go_wp2_with fail
        refine hK.out _ _ trivial (fun _ => ?_)
        clear hK K
        try simp only [Act.put, List.setIfInBounds_toArray, List.set_cons_zero, List.set_cons_succ]
        refine wpAnyH_ready (rs := [51]) (by kernel_rfl) (by simp) ?_
        refine AllReadyH.cons (o := { dst := some 90, op := Op.makeSlice 32 (Operand.const (Value.int IntKind.i64 11)) (Operand.const (Value.int IntKind.i64 11)), type := 32, pos := "law.go:72", after := #[{ on := 48, ground := Ground.guard }], guard := some (48, true) }) rfl (fun K hK => ?_) AllReadyH.nil
        refine (if_pos (by rfl)).mpr ?_
        refine wp_makeO u8ty (.const (.int .i64 11)) (.const (.int .i64 11)) rfl rfl rfl (by omega) (by omega) (by omega) (by omega) (base := x43.heap.size) (Nat.le_refl _) ?_
        intro gm nm cm x44 hnm hcm hom hbm _ hgm
        obtain rfl : nm = 11 := by omega
        obtain rfl : cm = 11 := by omega
        have HM := Lib.hid (And.intro (And.intro hom.rd (by rw [hgm]; exact fun i hi => (HA.out.2.1 i hi).2 : ∀ i, _ → i < gm)) (And.intro (by rw [hgm]; exact Nat.le_refl _ : x43.heap.size ≤ gm) (by obtain ⟨g', e', _, h'⟩ := hom.at0 (by omega); injection e' with e'; injection e' with e'; omega : gm < x44.heap.size)))
        replace HA := Lib.hid (HA.out.below hbm)
        clear hnm hcm hom hbm hgm
        refine hK.out _ _ trivial (fun _ => ?_)
        clear hK K
        try simp only [Act.put, List.setIfInBounds_toArray, List.set_cons_zero, List.set_cons_succ]
        refine wpAnyH_ready (rs := [52]) (by kernel_rfl) (by simp) ?_
        refine AllReadyH.cons (o := { dst := some 91, op := Op.call { callee := Callee.value (Operand.func 29), args := #[Operand.tmp 88, Operand.tmp 89, Operand.tmp 90], argTypes := #[23, 40, 32] }, type := 24, pos := "law.go:72", after := #[{ on := 49, ground := Ground.data }, { on := 50, ground := Ground.data }, { on := 51, ground := Ground.data }, { on := 50, ground := Ground.chain }, { on := 48, ground := Ground.guard }], guard := some (48, true) }) rfl (fun K hK => ?_) AllReadyH.nil
        go_simp
        rw [← HS5.out]
        refine (put_at (sumOf 5) (List.replicate 11 0) _ 11 11 _ x44 (sumOf_len 5) HA.out (by have := HM.out.1.1; simpa [bv] using this) (fun i e _ hO => by injection e with e; have := HM.out.1.2 i hO; subst e; simp at this) (Nat.le_refl _) (by omega)).mono ?_
        rintro e x45 ⟨O7, rfl, h, _⟩
        rw [st7.2.2, HS5.out]
        have hfin := h.2.2
        have HF := Lib.hid hfin
        clear h hfin HM HA
        go_wp2_with fail
        refine hK.out _ _ trivial (fun _ => ?_)
        clear hK K
        try simp only [Act.put, List.setIfInBounds_toArray, List.set_cons_zero, List.set_cons_succ]
        refine wpAnyH_take (i := 53) (oi := { dst := some 92, op := Op.binOp BinOp.eql 24 (Operand.tmp 91) (Operand.const (Value.int IntKind.i64 7)) 24, type := 4, pos := "law.go:72", after := #[{ on := 52, ground := Ground.data }, { on := 48, ground := Ground.guard }], guard := some (48, true) }) (v := .bool true) rfl (by kernel_rfl) (by kernel_rfl) (by kernel_rfl) (fun _ _ _ h => h) (Or.inl ⟨by rfl, ?hy53_68⟩) (by assumption) ?rest53_68
        case hy53_68 => (intro w hSw; (try dsimp only at hSw); go_split_ands; go_simp; try with_reducible rfl)
        try simp only [Act.put, List.setIfInBounds_toArray, List.set_cons_zero, List.set_cons_succ]
        refine wpAnyH_take (i := 54) (oi := { dst := some 93, op := Op.pick (Operand.tmp 87) (Operand.tmp 92) (Operand.const (Value.bool false)), type := 4, pos := "law.go:72", after := #[{ on := 48, ground := Ground.data }, { on := 53, ground := Ground.data }], guard := none }) (v := .bool true) rfl (by kernel_rfl) (by kernel_rfl) (by kernel_rfl) (fun _ _ _ h => h) (Or.inl ⟨by rfl, ?hy54_69⟩) (by assumption) ?rest54_69
        case hy54_69 => (intro w hSw; (try dsimp only at hSw); go_split_ands; go_simp; try with_reducible rfl)
        try simp only [Act.put, List.setIfInBounds_toArray, List.set_cons_zero, List.set_cons_succ]
        refine wpAnyH_take (i := 55) (oi := { dst := some 0, op := Op.assign (Operand.tmp 93), type := 4, pos := "law.go:72", after := #[{ on := 54, ground := Ground.data }, { on := 52, ground := Ground.chain }, { on := 0, ground := Ground.phase }, { on := 1, ground := Ground.phase }, { on := 2, ground := Ground.phase }, { on := 3, ground := Ground.phase }, { on := 4, ground := Ground.phase }, { on := 5, ground := Ground.phase }, { on := 6, ground := Ground.phase }, { on := 7, ground := Ground.phase }, { on := 8, ground := Ground.phase }, { on := 9, ground := Ground.phase }, { on := 10, ground := Ground.phase }, { on := 11, ground := Ground.phase }, { on := 12, ground := Ground.phase }, { on := 13, ground := Ground.phase }, { on := 14, ground := Ground.phase }, { on := 15, ground := Ground.phase }, { on := 16, ground := Ground.phase }, { on := 17, ground := Ground.phase }, { on := 18, ground := Ground.phase }, { on := 19, ground := Ground.phase }, { on := 20, ground := Ground.phase }, { on := 21, ground := Ground.phase }, { on := 22, ground := Ground.phase }, { on := 23, ground := Ground.phase }, { on := 24, ground := Ground.phase }, { on := 25, ground := Ground.phase }, { on := 26, ground := Ground.phase }, { on := 27, ground := Ground.phase }, { on := 28, ground := Ground.phase }, { on := 29, ground := Ground.phase }, { on := 30, ground := Ground.phase }, { on := 31, ground := Ground.phase }, { on := 32, ground := Ground.phase }, { on := 33, ground := Ground.phase }, { on := 34, ground := Ground.phase }, { on := 35, ground := Ground.phase }, { on := 36, ground := Ground.phase }, { on := 37, ground := Ground.phase }, { on := 38, ground := Ground.phase }, { on := 39, ground := Ground.phase }, { on := 40, ground := Ground.phase }, { on := 41, ground := Ground.phase }, { on := 42, ground := Ground.phase }, { on := 43, ground := Ground.phase }, { on := 44, ground := Ground.phase }, { on := 45, ground := Ground.phase }, { on := 46, ground := Ground.phase }, { on := 47, ground := Ground.phase }, { on := 48, ground := Ground.phase }, { on := 49, ground := Ground.phase }, { on := 50, ground := Ground.phase }, { on := 51, ground := Ground.phase }, { on := 52, ground := Ground.phase }, { on := 53, ground := Ground.phase }, { on := 54, ground := Ground.phase }], guard := none }) (v := .bool true) rfl (by kernel_rfl) (by kernel_rfl) (by kernel_rfl) (fun _ _ _ h => h) (Or.inl ⟨by rfl, ?hy55_70⟩) (by assumption) ?rest55_70
        case hy55_70 => (intro w hSw; (try dsimp only at hSw); go_split_ands; go_simp; try with_reducible rfl)
        try simp only [Act.put, List.setIfInBounds_toArray, List.set_cons_zero]
        refine wpAnyH_done (by kernel_rfl) ?_ _
        go_wp2_with fail
        go_ret
        exact ⟨rfl, HF.out⟩
      · refine (if_pos (by rfl)).mpr ?_
        refine wp_makeO u8ty (.const (.int .i64 11)) (.const (.int .i64 11)) rfl rfl rfl (by omega) (by omega) (by omega) (by omega) (base := x42.heap.size) (Nat.le_refl _) ?_
        intro gm nm cm x46 hnm hcm hom hbm _ hgm
        obtain rfl : nm = 11 := by omega
        obtain rfl : cm = 11 := by omega
        have HM := Lib.hid (And.intro (And.intro hom.rd (by rw [hgm]; exact fun i hi => (HA.out.2.1 i hi).2 : ∀ i, _ → i < gm)) (And.intro (by rw [hgm]; exact Nat.le_refl _ : x42.heap.size ≤ gm) (by obtain ⟨g', e', _, h'⟩ := hom.at0 (by omega); injection e' with e'; injection e' with e'; omega : gm < x46.heap.size)))
        replace HA := Lib.hid (HA.out.below hbm)
        clear hnm hcm hom hbm hgm
        refine hK.out _ _ trivial (fun _ => ?_)
        clear hK K
        try simp only [Act.put, List.setIfInBounds_toArray, List.set_cons_zero, List.set_cons_succ]
        refine wpAnyH_ready (rs := [50]) (by kernel_rfl) (by simp) ?_
        refine AllReadyH.cons (o := { dst := some 89, op := Op.call { callee := Callee.value (Operand.func 19), args := #[Operand.const (Value.int IntKind.i64 5)], argTypes := #[3] }, type := 40, pos := "law.go:72", after := #[{ on := 48, ground := Ground.chain }, { on := 48, ground := Ground.guard }], guard := some (48, true) }) rfl (fun K hK => ?_) AllReadyH.nil
        go_simp
        refine (sum_of 5 _).mono ?_
        rintro e x47 ⟨rfl, hb⟩
        replace HA := Lib.hid (HA.out.below hb)
        replace HM := Lib.hid (And.intro (And.intro ((HM.out.1.1.below hb (Nat.le_refl _)).more hb.size) HM.out.1.2) HM.out.2)
        clear hb
        rw [HS5.out]
        go_wp2_with fail
        refine hK.out _ _ trivial (fun _ => ?_)
        clear hK K
        try simp only [Act.put, List.setIfInBounds_toArray, List.set_cons_zero, List.set_cons_succ]
        refine wpAnyH_ready (rs := [52]) (by kernel_rfl) (by simp) ?_
        refine AllReadyH.cons (o := { dst := some 91, op := Op.call { callee := Callee.value (Operand.func 29), args := #[Operand.tmp 88, Operand.tmp 89, Operand.tmp 90], argTypes := #[23, 40, 32] }, type := 24, pos := "law.go:72", after := #[{ on := 49, ground := Ground.data }, { on := 50, ground := Ground.data }, { on := 51, ground := Ground.data }, { on := 50, ground := Ground.chain }, { on := 48, ground := Ground.guard }], guard := some (48, true) }) rfl (fun K hK => ?_) AllReadyH.nil
        go_simp
        rw [← HS5.out]
        refine (put_at (sumOf 5) (List.replicate 11 0) _ 11 11 _ x47 (sumOf_len 5) HA.out (by have := HM.out.1.1; simpa [bv] using this) (fun i e _ hO => by injection e with e; have := HM.out.1.2 i hO; subst e; simp at this) (Nat.le_refl _) (by omega)).mono ?_
        rintro e x48 ⟨O7, rfl, h, _⟩
        rw [st7.2.2, HS5.out]
        have hfin := h.2.2
        have HF := Lib.hid hfin
        clear h hfin HM HA
        go_wp2_with fail
        refine hK.out _ _ trivial (fun _ => ?_)
        clear hK K
        try simp only [Act.put, List.setIfInBounds_toArray, List.set_cons_zero, List.set_cons_succ]
        refine wpAnyH_take (i := 53) (oi := { dst := some 92, op := Op.binOp BinOp.eql 24 (Operand.tmp 91) (Operand.const (Value.int IntKind.i64 7)) 24, type := 4, pos := "law.go:72", after := #[{ on := 52, ground := Ground.data }, { on := 48, ground := Ground.guard }], guard := some (48, true) }) (v := .bool true) rfl (by kernel_rfl) (by kernel_rfl) (by kernel_rfl) (fun _ _ _ h => h) (Or.inl ⟨by rfl, ?hy53_71⟩) (by assumption) ?rest53_71
        case hy53_71 => (intro w hSw; (try dsimp only at hSw); go_split_ands; go_simp; try with_reducible rfl)
        try simp only [Act.put, List.setIfInBounds_toArray, List.set_cons_zero, List.set_cons_succ]
        refine wpAnyH_take (i := 54) (oi := { dst := some 93, op := Op.pick (Operand.tmp 87) (Operand.tmp 92) (Operand.const (Value.bool false)), type := 4, pos := "law.go:72", after := #[{ on := 48, ground := Ground.data }, { on := 53, ground := Ground.data }], guard := none }) (v := .bool true) rfl (by kernel_rfl) (by kernel_rfl) (by kernel_rfl) (fun _ _ _ h => h) (Or.inl ⟨by rfl, ?hy54_72⟩) (by assumption) ?rest54_72
        case hy54_72 => (intro w hSw; (try dsimp only at hSw); go_split_ands; go_simp; try with_reducible rfl)
        try simp only [Act.put, List.setIfInBounds_toArray, List.set_cons_zero, List.set_cons_succ]
        refine wpAnyH_take (i := 55) (oi := { dst := some 0, op := Op.assign (Operand.tmp 93), type := 4, pos := "law.go:72", after := #[{ on := 54, ground := Ground.data }, { on := 52, ground := Ground.chain }, { on := 0, ground := Ground.phase }, { on := 1, ground := Ground.phase }, { on := 2, ground := Ground.phase }, { on := 3, ground := Ground.phase }, { on := 4, ground := Ground.phase }, { on := 5, ground := Ground.phase }, { on := 6, ground := Ground.phase }, { on := 7, ground := Ground.phase }, { on := 8, ground := Ground.phase }, { on := 9, ground := Ground.phase }, { on := 10, ground := Ground.phase }, { on := 11, ground := Ground.phase }, { on := 12, ground := Ground.phase }, { on := 13, ground := Ground.phase }, { on := 14, ground := Ground.phase }, { on := 15, ground := Ground.phase }, { on := 16, ground := Ground.phase }, { on := 17, ground := Ground.phase }, { on := 18, ground := Ground.phase }, { on := 19, ground := Ground.phase }, { on := 20, ground := Ground.phase }, { on := 21, ground := Ground.phase }, { on := 22, ground := Ground.phase }, { on := 23, ground := Ground.phase }, { on := 24, ground := Ground.phase }, { on := 25, ground := Ground.phase }, { on := 26, ground := Ground.phase }, { on := 27, ground := Ground.phase }, { on := 28, ground := Ground.phase }, { on := 29, ground := Ground.phase }, { on := 30, ground := Ground.phase }, { on := 31, ground := Ground.phase }, { on := 32, ground := Ground.phase }, { on := 33, ground := Ground.phase }, { on := 34, ground := Ground.phase }, { on := 35, ground := Ground.phase }, { on := 36, ground := Ground.phase }, { on := 37, ground := Ground.phase }, { on := 38, ground := Ground.phase }, { on := 39, ground := Ground.phase }, { on := 40, ground := Ground.phase }, { on := 41, ground := Ground.phase }, { on := 42, ground := Ground.phase }, { on := 43, ground := Ground.phase }, { on := 44, ground := Ground.phase }, { on := 45, ground := Ground.phase }, { on := 46, ground := Ground.phase }, { on := 47, ground := Ground.phase }, { on := 48, ground := Ground.phase }, { on := 49, ground := Ground.phase }, { on := 50, ground := Ground.phase }, { on := 51, ground := Ground.phase }, { on := 52, ground := Ground.phase }, { on := 53, ground := Ground.phase }, { on := 54, ground := Ground.phase }], guard := none }) (v := .bool true) rfl (by kernel_rfl) (by kernel_rfl) (by kernel_rfl) (fun _ _ _ h => h) (Or.inl ⟨by rfl, ?hy55_73⟩) (by assumption) ?rest55_73
        case hy55_73 => (intro w hSw; (try dsimp only at hSw); go_split_ands; go_simp; try with_reducible rfl)
        try simp only [Act.put, List.setIfInBounds_toArray, List.set_cons_zero]
        refine wpAnyH_done (by kernel_rfl) ?_ _
        go_wp2_with fail
        go_ret
        exact ⟨rfl, HF.out⟩
end Go.Proofs.Ytnmifaohmafobaa.st
