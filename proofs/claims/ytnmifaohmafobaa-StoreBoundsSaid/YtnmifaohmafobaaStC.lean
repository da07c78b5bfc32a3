/- A store: Len, Bytes, find, Has. -/
import Derived.Test.YtnmifaohmafobaaStB
namespace Go.Proofs.Ytnmifaohmafobaa.st
open Go.RowKit Mem SM
open Go.Maps (Keyed)
set_option linter.unusedVariables false
variable {w w' : World} {O : Nat → Prop} {s M R : Nat} {L : List Ent}
theorem below_drewN {B : Nat} {w w1 : World} (h : Below B w w1) (n : Nat) : Below B w (w1.drewN n) := ⟨h.os, h.tape, h.output, h.size, h.block⟩
theorem below_drew {B : Nat} {w w1 : World} (h : Below B w w1) : Below B w w1.drew := ⟨h.os, h.tape, h.output, h.size, h.block⟩
/-- in a region that draws its order and writes nothing: a load of many cells, a look-up in a map -/
theorem q_load {P : Program} {ops : Array Oper} {C : World → Prop} {Q : Act → Prop} {o : Oper} {rest : List Oper} {a : Act} (hgd : o.guard = none) (ty : TypeId) (x : Operand) (ho : o.op = .load ty x)
    (b off : Nat) (hx : a.eval x = .pointer (some ⟨b, off, none⟩)) (cs : List Value) (d : TypeDesc) (hc : ∀ w, C w → w.rangeAt b off cs) (hu : P.underlying ty = some d) (hd : d.isRow = true) (hi : (P.info? ty).map (·.size) = some cs.length)
    (h : wpQuiet P ops C Q rest (a.put o.dst (.agg cs.toArray))) : wpQuiet P ops C Q (o :: rest) a := by
  have hw : Region.wanted o (yielded ops a.tmps) = true := by simp [Region.wanted, hgd]
  unfold wpQuiet
  rw [if_pos hw]
  refine ⟨_, fun w hw' => ?_, h⟩
  unfold Oper.quietAt execOp
  simp only [ho, hx, Instr.loadAt, Instr.sureAddr, Sem.run_bind, Sem.run_pure, Result.andThen_ok, run_loadVar_mid w b off ty cs d (hc w hw') hu hd hi]
  exact ⟨rfl, rfl⟩
theorem q_look {P : Program} {ops : Array Oper} {C : World → Prop} {Q : Act → Prop} {o : Oper} {rest : List Oper} {a : Act} (hgd : o.guard = none) (t : TypeId) (m x : Operand) (ho : o.op = .lookup t m x false)
    (mv xv v : Value) (hm : a.eval m = mv) (hx : a.eval x = xv) (hc : ∀ w, C w → (Instr.lookup t mv xv false).run P w = .ok v w)
    (h : wpQuiet P ops C Q rest (a.put o.dst v)) : wpQuiet P ops C Q (o :: rest) a := by
  have hw : Region.wanted o (yielded ops a.tmps) = true := by simp [Region.wanted, hgd]
  unfold wpQuiet
  rw [if_pos hw]
  refine ⟨_, fun w hw' => ?_, h⟩
  unfold Oper.quietAt execOp
  simp only [ho, hm, hx, Sem.run_bind, Result.andThen_ok, hc w hw']
  exact ⟨rfl, rfl⟩
theorem len_any (w : World) (h : StoreB w O s M R L) :
    Calls Try.prog 31 #[.pointer (some ⟨s, 0, none⟩)] w fun e w' => e = .returned (.int .i64 (L.length : Nat)) ∧ w = w' := by
  obtain ⟨r, g, mb, FA, fc, E, D, ns, fs, hB, rfl, h0⟩ := h.row
  have h2 := hB.c2
  obtain ⟨DM, hm, hsz, _⟩ := hB.mp
  have HM := Lib.hid hm
  rw [List.length_map, ← hsz]
  clear hsz hm h hB
  go_enter Try.func31, Try.ntmps31
  go_wp2_with (first
    | (go_at_call 41; refine (made_yes s r _ h0).mono ?_; rintro e w1 ⟨rfl, rfl⟩)
    | (at_len; refine wpList_len_own _ rfl _ _ rfl _ _ Try.underlying58 _ _ _ _ rfl HM.out ?_)
    | fail)
  go_ret
  exact ⟨rfl, rfl⟩
theorem bytes_any (w : World) (h : StoreB w O s M R L) :
    Calls Try.prog 32 #[.pointer (some ⟨s, 0, none⟩)] w fun e w' => e = .returned (.int .i64 (total L : Nat)) ∧ w = w' := by
  obtain ⟨r, g, mb, FA, fc, E, D, ns, fs, hB, rfl, h0⟩ := h.row
  have h2 := hB.c3
  clear hB h
  go_enter Try.func32, Try.ntmps32
  go_wp2_with (go_at_call 41; refine (made_yes s r _ h0).mono ?_; rintro e w1 ⟨rfl, rfl⟩)
  go_ret
  exact ⟨rfl, rfl⟩
theorem sum_there (w : World) (sm : List UInt8) (t : TypeId) : (w.alloc (.cells (bv sm).toArray t)).rangeAt w.heap.size 0 (bv sm) := fun j v hv => by
  rw [Nat.zero_add, cell_of_row _ _ j (bv sm).toArray t (0, 0) (heap_alloc_new w _)]
  simpa using hv
theorem info_sum : (Try.prog.info? 40).map (·.size) = some 32 := by kernel_rfl
/-- the number under which a row has a digest -/
theorem find_no (v : Value) (sm : List UInt8) (w : World) (h : NoStore w v) :
    Calls Try.prog 43 #[v, .agg (bv sm).toArray] w fun e w' => e = .returned (.tuple #[.int .i64 0, .int .i64 6]) ∧ Below w.heap.size w w' := by
  have hn : NoStore (w.alloc (.cells (bv sm).toArray 40)) v := by
    rcases h with rfl | ⟨c, rfl, h⟩
    · exact Or.inl rfl
    · exact Or.inr ⟨c, rfl, by rw [World.cell?_alloc_lt _ _ _ (World.block_lt_of_cell? w _ h)]; exact h⟩
  have H := Lib.hid (made_no v _ hn)
  clear hn h
  obtain ⟨K, hK⟩ : ∃ K, (bv sm).toArray = K := ⟨_, rfl⟩
  rw [hK] at H ⊢
  go_enter Try.func43, Try.ntmps43
  go_wp2_with (go_at_call 41; refine H.out.mono ?_; rintro e w1 ⟨rfl, rfl⟩)
  go_ret2
  exact ⟨rfl, (Below.refl _ _).alloc (Nat.le_refl _) _⟩
/-- what find tells: the place in the ring, or 0 -/
theorem find_any (r g mb fc : Nat) (FA : Option Addr) (E : Nat → Ent) (D : Nat → Sl) (ns fs : List Nat) (sm : List UInt8) (c e : Int) (w : World) (hs : sm.length = 32) (hB : RowB w O r g M mb FA fc E D ns fs) (h0 : w.cell? ⟨s, 0, none⟩ = some (.pointer (some ⟨r, 0, none⟩)))
    (hce : (∃ n ∈ ns, (E n).sum = sm ∧ c = (n : Nat) ∧ e = 0) ∨ ((∀ n ∈ ns, (E n).sum ≠ sm) ∧ c = 0 ∧ e = 90)) :
    Calls Try.prog 43 #[.pointer (some ⟨s, 0, none⟩), .agg (bv sm).toArray] w fun en w' => en = .returned (.tuple #[.int .i64 c, .int .i64 e]) ∧ Below w.heap.size w w' := by
  have hlk : ∀ k : Nat, (Instr.lookup 58 (.map (some mb)) (.agg (bv sm).toArray) false).run Try.prog ((w.alloc (.cells (bv sm).toArray 40)).drewN k) = .ok (.int .i64 c) ((w.alloc (.cells (bv sm).toArray 40)).drewN k) := by
    intro k
    obtain ⟨DM, hm, _, hat, hno⟩ := (Kept.drewN (w.alloc (.cells (bv sm).toArray 40)) k (fun _ => False)).map ((Kept.alloc w (.cells (bv sm).toArray 40) (fun _ => False)).map hB.mp id) id
    obtain ⟨c', hrun, hc', _⟩ := hm.lookup_int sumKeyed Try.underlying58 Try.underlying3 (zero_int _) (key_of sm hs)
    rw [hrun]
    have : c' = c := by
      rcases hce with ⟨n, hn, he, hc, _⟩ | ⟨hn, hc, _⟩
      · have := hat n hn
        simp only [he] at this
        rw [show (DataW.lit (Lit.int IntKind.i64 0) : DD) = num 0 from rfl, this] at hc'
        simp only [num, DataW.lit.injEq, Lit.int.injEq, true_and] at hc'
        omega
      · have := (hno sm hs hn).1
        rw [show (DataW.lit (Lit.int IntKind.i64 0) : DD) = num 0 from rfl, this] at hc'
        simp only [num, DataW.lit.injEq, Lit.int.injEq, true_and] at hc'
        omega
    rw [this]
  have h2 := hB.c2
  have hrg := sum_there w sm 40
  have hl1 := cell_lt h0
  have hl2 := cell_lt h2
  have h0' : (w.alloc (.cells (bv sm).toArray 40)).cell? ⟨s, 0, none⟩ = some (.pointer (some ⟨r, 0, none⟩)) := by rw [World.cell?_alloc_lt _ _ _ hl1]; exact h0
  have h2' : (w.alloc (.cells (bv sm).toArray 40)).cell? ⟨r, 2, none⟩ = some (.map (some mb)) := by rw [World.cell?_alloc_lt _ _ _ hl2]; exact h2
  have hsz : (bv sm).toArray.size = 32 := by simp [bv_len, hs]
  have hce2 : (c = 0 ∧ e = 90) ∨ ((c == 0) = false ∧ e = 0) := by
    rcases hce with ⟨n, hn, _, rfl, rfl⟩ | ⟨_, rfl, rfl⟩
    · have := hB.mem (Or.inl hn)
      exact Or.inr ⟨by simp; omega, rfl⟩
    · exact Or.inl ⟨rfl, rfl⟩
  have hb : Below w.heap.size w (w.alloc (.cells (bv sm).toArray 40)) := (Below.refl _ _).alloc (Nat.le_refl _) _
  clear hB hce
  have HI : (Try.prog.info? 40).map (·.size) = some (bv sm).length := by rw [info_sum, bv_len, hs]
  obtain ⟨xs, hK⟩ : ∃ xs, bv sm = xs := ⟨_, rfl⟩
  rw [hK] at h0' h2' hsz hb hrg hlk HI ⊢
  clear hK hsz
  have hM := Lib.hid (made_yes s r _ h0')
  obtain ⟨K, hK⟩ : ∃ K, xs.toArray = K := ⟨_, rfl⟩
  have HI := Lib.hid HI
  have HR := Lib.hid hrg
  have HK := Lib.hid hlk
  have HKK := Lib.hid hK
  rw [hK] at h0' h2' hM hb ⊢
  clear hrg hlk hK
  go_enter Try.func43, Try.ntmps43
  go_wp2_with (go_at_call 41; refine hM.out.mono ?_; rintro e w1 ⟨rfl, rfl⟩)
  clear hM h0 h2 hl1 hl2
  have HB := Lib.hid hb
  clear hb
  rw [HKK.out] at HR HK
  generalize w.alloc (.cells K 40) = w1 at *
  generalize hbk : w.heap.size = bk at *
  have HBK := Lib.hid hbk
  clear hbk
  refine wp_region_quiet_lit (by kernel_rfl) (by kernel_rfl) ?_
  repeat (go_big_quiet_step (fail))
  refine q_load rfl 40 (.tmp 3) rfl bk 0 rfl xs _ (fun w hw => ?_) Try.underlying40 rfl HI.out ?_
  · obtain ⟨n, rfl⟩ := hw
    exact HR.out
  rw [HKK.out]
  refine q_look rfl 58 (.tmp 16) (.tmp 17) rfl (.map (some mb)) (.agg K) (.int .i64 c) rfl rfl (fun w hw => ?_) ?_
  · obtain ⟨n, rfl⟩ := hw
    exact HK.out n
  go_simp
  repeat (go_big_quiet_step (fail))
  refine wpQuiet_nil ?_
  intro nq
  rcases hce2 with ⟨rfl, rfl⟩ | ⟨hc0, rfl⟩
  · go_wp2_with fail
    go_ret2
    exact ⟨rfl, by rw [HBK.out]; exact below_drewN HB.out nq⟩
  · go_wp2_with fail
    go_ret2
    exact ⟨rfl, by rw [HBK.out]; exact below_drewN HB.out nq⟩
/-- the chunk of a digest among these -/
theorem find_cases (ns : List Nat) (E : Nat → Ent) (sm : List UInt8) : (∃ n ∈ ns, (E n).sum = sm) ∨ ∀ n ∈ ns, (E n).sum ≠ sm := by
  by_cases h : ∃ n ∈ ns, (E n).sum = sm
  · exact Or.inl h
  · exact Or.inr fun n hn e => h ⟨n, hn, e⟩
theorem mem_sums {ns : List Nat} {E : Nat → Ent} {sm : List UInt8} : sm ∈ sums (ns.map E) ↔ ∃ n ∈ ns, (E n).sum = sm := by simp [sums]
theorem has_any (sm : List UInt8) (w : World) (hs : sm.length = 32) (h : StoreB w O s M R L) :
    Calls Try.prog 37 #[.pointer (some ⟨s, 0, none⟩), .agg (bv sm).toArray] w fun e w' => e = .returned (.bool (decide (sm ∈ sums L))) ∧ Below w.heap.size w w' := by
  have hb : Below w.heap.size w (w.alloc (.cells (bv sm).toArray 40)) := (Below.refl _ _).alloc (Nat.le_refl _) _
  obtain ⟨r, g, mb, FA, fc, E, D, ns, fs, hB, rfl, h0⟩ := h.row
  have hl0 := cell_lt h0
  have h0' : (w.alloc (.cells (bv sm).toArray 40)).cell? ⟨s, 0, none⟩ = some (.pointer (some ⟨r, 0, none⟩)) := by rw [World.cell?_alloc_lt _ _ _ hl0]; exact h0
  have hB' := hB.below hb
  have hrg := sum_there w sm 40
  have hex : ∃ c e : Int, ((∃ n ∈ ns, (E n).sum = sm ∧ c = (n : Nat) ∧ e = 0) ∨ ((∀ n ∈ ns, (E n).sum ≠ sm) ∧ c = 0 ∧ e = 90)) ∧ decide (sm ∈ sums (ns.map E)) = (e == 0) := by
    rcases find_cases ns E sm with ⟨n, hn, he⟩ | hn
    · exact ⟨n, 0, Or.inl ⟨n, hn, he, rfl, rfl⟩, decide_eq_true (mem_sums.2 ⟨n, hn, he⟩)⟩
    · exact ⟨0, 90, Or.inr ⟨hn, rfl, rfl⟩, decide_eq_false (fun e => by obtain ⟨n, h1, h2⟩ := mem_sums.1 e; exact hn n h1 h2)⟩
  obtain ⟨c, e, hce, hdec⟩ := hex
  have HF := Lib.hid (find_any r g mb fc FA E D ns fs sm c e _ hs hB' h0' hce)
  rw [hdec]
  have HI : (Try.prog.info? 40).map (·.size) = some (bv sm).length := by rw [info_sum, bv_len, hs]
  obtain ⟨xs, hx⟩ : ∃ xs, bv sm = xs := ⟨_, rfl⟩
  rw [hx] at HF hb hrg HI ⊢
  have hrg := Lib.hid hrg
  have HI := Lib.hid HI
  obtain ⟨K, hK⟩ : ∃ K, xs.toArray = K := ⟨_, rfl⟩
  have HKK := Lib.hid hK
  rw [hK] at HF hb hrg ⊢
  have HB := Lib.hid hb
  clear hx hK hb h0 h0' hl0 hB hB' h hce hdec
  go_enter Try.func37, Try.ntmps37
  go_wp2_with (first
    | (refine wpList_load_mid rfl 40 (.tmp 3) rfl w.heap.size 0 rfl xs _ hrg.out Try.underlying40 rfl HI.out ?_; rw [HKK.out])
    | (go_at_call 43; refine HF.out.mono ?_; rintro e w2 ⟨rfl, hb2⟩)
    | fail)
  go_ret
  exact ⟨rfl, HB.out.trans (hb2.mono (by simp))⟩
end Go.Proofs.Ytnmifaohmafobaa.st
