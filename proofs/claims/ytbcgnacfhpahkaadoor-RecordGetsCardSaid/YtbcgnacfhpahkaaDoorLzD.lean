/- lz: what a stretch begins with; where it stood last. -/
import Derived.Test.YtbcgnacfhpahkaaDoorLzC
import Derived.Laws.Cover3
import Derived.Deep.WholeRow
namespace Go.Proofs.YtbcgnacfhpahkaaDoor.lz
open Go.RowKit Mem OM LM oct
open Go.Maps (Keyed)
set_option linter.unusedVariables false
attribute [local go_sem] Oper.semAt_some
variable {w w' : World} {x mb n c0 lo e : Nat} {A0 : Option Addr} {B : List UInt8} {f : List UInt8 → Option Nat}
theorem three {l : List UInt8} (h : l.length = 3) : ∃ a b c, l = [a, b, c] := by
  match l, h with
  | [a, b, c], _ => exact ⟨a, b, c, rfl⟩
theorem results_ct {P : Program} {w : World} {fn : Func} {a u : Tmp} {t : TypeId} (h : fn.results = #[.cell a t, .tmp u]) (tmps : Array Value) (p : Addr) (v : Value) (ha : tmps.getD a undef = .pointer (some p))
    (hl : (loadVar t p).run P w = .ok v w) : (results fn tmps).run P w = .ok (.tuple #[v, tmps.getD u undef]) w := by
  have ha2 : tmps[a]?.getD undef = .pointer (some p) := by simpa using ha
  simp [results, h, ha2, asAddr, hl]
theorem start_no (a : Nat) (w : World) (h : Win w x mb n c0 A0 B lo e f) (ha : a ≤ 1152921504606846976) (hs : n < a + 3) :
    Calls Tryd.prog 77 #[.pointer (some ⟨x, 0, none⟩), .int .i64 (a : Nat)] w fun en w' => en = .returned (.tuple #[.agg #[.int .u8 0, .int .u8 0, .int .u8 0], .bool false]) ∧ Below w.heap.size w w' := by
  have h0 := h.k0
  have hn := h.nc.2
  have hlt := h.lt.2
  have q1 : (n : Int) - (a : Int) < 3 := by omega
  clear h
  go_enter Tryd.func77, Tryd.ntmps77
  go_wp2_with fail
  refine bodyPost_ret (results_ct rfl _ ⟨w.heap.size, 0, none⟩ _ rfl (run_loadVar_new w 119 _ 3 5 Tryd.underlying119 info_start)) rfl ⟨rfl, (Below.refl _ _).alloc (Nat.le_refl _) _⟩
theorem start_yes (a : Nat) (w : World) (h : Win w x mb n c0 A0 B lo e f) (ha : a ≤ 1152921504606846976) (hs : a + 3 ≤ n) :
    Calls Tryd.prog 77 #[.pointer (some ⟨x, 0, none⟩), .int .i64 (a : Nat)] w fun en w' => en = .returned (.tuple #[.agg (bv (st B a)).toArray, .bool true]) ∧ Below w.heap.size w w' := by
  have h0 := h.k0
  have hn := h.nc.2
  have hlt := h.lt.2
  have hl := h.len
  have q1 : ¬ (n : Int) - (a : Int) < 3 := by omega
  obtain ⟨g, off, rfl, hg, hc⟩ := h.rd.addr (by omega)
  have hc0 := hc a (by omega)
  have hc1 := hc (a + 1) (by omega)
  have hc2 := hc (a + 2) (by omega)
  have hst : st B a = [B[a], B[a + 1], B[a + 2]] := by
    unfold st
    rw [List.drop_eq_getElem_cons (show a < B.length by omega), List.drop_eq_getElem_cons (show a + 1 < B.length by omega), List.drop_eq_getElem_cons (show a + 1 + 1 < B.length by omega)]
    rfl
  have hne : ¬ c0 = a := by have := h.nc.1; omega
  have hat : ∀ w, (Instr.arrayAt 119 (.slice (some ⟨g, off + a, none⟩) (n - a) (c0 - a))).run Tryd.prog w = .ok (.pointer (some ⟨g, off + a, none⟩)) w := fun w => run_arrayAt w _ 5 3 _ _ _ Tryd.underlying119 (by omega)
  rw [bv_at B _ (by omega)] at hc0 hc1 hc2
  rw [hst]
  generalize B[a] = b0 at *
  generalize B[a + 1] = b1 at *
  generalize B[a + 2] = b2 at *
  have hgl : g < w.heap.size := by have := h.lt.1; omega
  rw [show off + (a + 1) = off + a + 1 by omega] at hc1
  rw [show off + (a + 2) = off + a + 2 by omega] at hc2
  clear h hst hc hl hg
  go_enter Tryd.func77, Tryd.ntmps77
  go_wp2_with fail
  refine bodyPost_ret (results_ct rfl _ ⟨w.heap.size, 0, none⟩ _ rfl (run_loadVar_new w 119 _ 3 5 Tryd.underlying119 info_start)) rfl ⟨rfl, (Below.refl _ _).alloc (Nat.le_refl _) _⟩
theorem look_f {mb K : Nat} {w : World} (h : MapW w mb f K) (s : List UInt8) (hs : s.length = 3) : (Instr.lookup 89 (.map (some mb)) (.agg (bv s).toArray) true).run Tryd.prog w = .ok (.tuple #[.int .i64 ((f s).getD 0 : Nat), .bool (f s).isSome]) w := by
  obtain ⟨D, h1, h2⟩ := h
  obtain ⟨v, ps, hrun, hv⟩ := h1.look_ok startKeyed Tryd.underlying89 (zero_int _) (zd := num 0) (zp := []) (plainElem_int Tryd.underlying3 (by decide)) (key_of s hs)
  obtain ⟨c, rfl, hc, hwc⟩ := plainElem_int_inv Tryd.underlying3 hv
  rw [hrun]
  have key : Maps.has D (kl s) = (f s).isSome ∧ D.atKey (kl s) (num 0) = num ((f s).getD 0) := by
    cases hf : f s with
    | none => exact ⟨(h2.miss s hs hf).2, (h2.miss s hs hf).1⟩
    | some q => exact ⟨(h2.hit s q hs hf).2, (h2.hit s q hs hf).1⟩
  rw [key.1]
  rw [key.2] at hc
  have := congrArg Prod.fst hc
  simp only [num, DataW.lit.injEq, Lit.int.injEq, true_and] at this
  rw [this]
theorem start_there (w : World) (s : List UInt8) (t : TypeId) : (w.alloc (.cells (bv s).toArray t)).rangeAt w.heap.size 0 (bv s) := fun j v hv => by
  rw [Nat.zero_add, cell_of_row _ _ j (bv s).toArray t (0, 0) (heap_alloc_new w _)]
  simpa using hv
theorem find_w (s : List UInt8) (w : World) (h : Win w x mb n c0 A0 B lo e f) (hs : s.length = 3) :
    Calls Tryd.prog 78 #[.pointer (some ⟨x, 0, none⟩), .agg (bv s).toArray] w fun en w' => en = .returned (.int .i64 (ov (f s))) ∧ Below w.heap.size w w' := by
  have hx := h.lt.2
  have hm := h.lt.1
  have hb : Below w.heap.size w (w.alloc (.cells (bv s).toArray 119)) := (Below.refl _ _).alloc (Nat.le_refl _) _
  have hrg := start_there w s 119
  have h2 : (w.alloc (.cells (bv s).toArray 119)).cell? ⟨x, 2, none⟩ = some (.map (some mb)) := (hb.cell (p := ⟨x, 2, none⟩) hx).trans h.k2
  have hlk : ∀ k, (Instr.lookup 89 (.map (some mb)) (.agg (bv s).toArray) true).run Tryd.prog ((w.alloc (.cells (bv s).toArray 119)).drewN k) = .ok (.tuple #[.int .i64 ((f s).getD 0 : Nat), .bool (f s).isSome]) ((w.alloc (.cells (bv s).toArray 119)).drewN k) := fun k =>
    look_f ((Kept.drewN _ k (fun _ => False)).map ((Kept.ofBelow hb).map h.mp (by omega)) id) s hs
  have HI : (Tryd.prog.info? 119).map (·.size) = some (bv s).length := by rw [info_start, bv_len, hs]
  have hov : ((f s).isSome = true ∧ ov (f s) = ((f s).getD 0 : Nat)) ∨ ((f s).isSome = false ∧ ov (f s) = -1) := by
    cases f s with
    | none => exact Or.inr ⟨rfl, rfl⟩
    | some q => exact Or.inl ⟨rfl, rfl⟩
  generalize (f s).getD 0 = c at *
  generalize (f s).isSome = ok at *
  generalize ov (f s) = v at *
  obtain ⟨xs, hxs⟩ : ∃ xs, bv s = xs := ⟨_, rfl⟩
  rw [hxs] at hb hrg h2 hlk HI ⊢
  have HR := Lib.hid hrg
  have HK := Lib.hid hlk
  have HII := Lib.hid HI
  have HB := Lib.hid hb
  clear hrg hlk HI hb h hxs hs
  obtain ⟨K, hK⟩ : ∃ K, xs.toArray = K := ⟨_, rfl⟩
  have HKK := Lib.hid hK
  rw [hK] at h2 HR HK HB ⊢
  clear hK
  go_enter Tryd.func78, Tryd.ntmps78
  go_wp2_with fail
  generalize hbk : w.heap.size = bk at *
  have HBK := Lib.hid hbk
  clear hbk
  generalize w.alloc (.cells K 119) = w1 at *
  refine wp_region_quiet_lit (by kernel_rfl) (by kernel_rfl) ?_
  repeat (go_big_quiet_step (fail))
  refine q_load rfl 119 (.tmp 3) rfl bk 0 rfl xs _ (fun w hw => ?_) Tryd.underlying119 rfl HII.out ?_
  · obtain ⟨n, rfl⟩ := hw
    exact HR.out
  rw [HKK.out]
  refine q_look rfl 89 (.tmp 11) (.tmp 12) true rfl (.map (some mb)) (.agg K) (.tuple #[.int .i64 (c : Nat), .bool ok]) rfl rfl (fun w hw => ?_) ?_
  · obtain ⟨n, rfl⟩ := hw
    exact HK.out n
  go_simp
  repeat (go_big_quiet_step (fail))
  refine wpQuiet_nil ?_
  intro nq
  rcases hov with ⟨rfl, rfl⟩ | ⟨rfl, rfl⟩
  · go_wp2_with fail
    go_ret
    exact ⟨rfl, by rw [HBK.out]; exact below_drewN HB.out nq⟩
  · go_wp2_with fail
    go_ret
    exact ⟨rfl, by rw [HBK.out]; exact below_drewN HB.out nq⟩
end Go.Proofs.YtbcgnacfhpahkaaDoor.lz
