/- record: Make. -/
import Derived.Test.YtbcgnacfhpahkaaDoorRcA
namespace Go.Proofs.YtbcgnacfhpahkaaDoor.rc
set_option maxRecDepth 20000
open Go.RowKit Mem OM
set_option linter.unusedVariables false
attribute [local go_sem] Oper.semAt_some
/-- no record -/
def z32 : List UInt8 := List.replicate 32 0
def recZ : List Value := recL 0 0 z32 none 0 0
theorem build_rec32 (x0 x1 x2 x3 x4 x5 x6 x7 x8 x9 x10 x11 x12 x13 x14 x15 x16 x17 x18 x19 x20 x21 x22 x23 x24 x25 x26 x27 x28 x29 x30 x31 : UInt8) (S : Int) (w : World) :
    (Instr.build 26 #[(0, .int .i64 1), (1, .int .i64 S), (2, .agg (bv [x0, x1, x2, x3, x4, x5, x6, x7, x8, x9, x10, x11, x12, x13, x14, x15, x16, x17, x18, x19, x20, x21, x22, x23, x24, x25, x26, x27, x28, x29, x30, x31]).toArray)]).run Tryd.prog w = .ok (.agg (recL 1 S [x0, x1, x2, x3, x4, x5, x6, x7, x8, x9, x10, x11, x12, x13, x14, x15, x16, x17, x18, x19, x20, x21, x22, x23, x24, x25, x26, x27, x28, x29, x30, x31] none 0 0).toArray) w := by kernel_rfl
theorem build_rec (s : List UInt8) (hs : s.length = 32) (S : Int) (w : World) :
    (Instr.build 26 #[(0, .int .i64 1), (1, .int .i64 S), (2, .agg (bv s).toArray)]).run Tryd.prog w = .ok (.agg (recL 1 S s none 0 0).toArray) w := by
  match s, hs with
  | [x0, x1, x2, x3, x4, x5, x6, x7, x8, x9, x10, x11, x12, x13, x14, x15, x16, x17, x18, x19, x20, x21, x22, x23, x24, x25, x26, x27, x28, x29, x30, x31], _ => exact build_rec32 x0 x1 x2 x3 x4 x5 x6 x7 x8 x9 x10 x11 x12 x13 x14 x15 x16 x17 x18 x19 x20 x21 x22 x23 x24 x25 x26 x27 x28 x29 x30 x31 S w
theorem rec_one {K S : Int} {d : List UInt8} {A : Option Addr} {n c : Nat} : ∀ v ∈ recL K S d A n c, v.oneCell' = true := by
  unfold recL
  intro v hv
  rcases List.mem_cons.1 hv with rfl | hv
  · rfl
  · rcases List.mem_cons.1 hv with rfl | hv
    · rfl
    · rcases List.mem_append.1 hv with hv | hv
      · exact bv_one _ v hv
      · rw [List.mem_singleton.1 hv]; first | rfl | done
theorem range_set1 {w : World} {b : Nat} {cs : List Value} (h : w.rangeAt b 0 cs) (i : Nat) (v : Value) : (w.setCell ⟨b, i, none⟩ v).rangeAt b 0 (cs.set i v) := fun j u hu => by
  rw [Nat.zero_add]
  by_cases e : i = j
  · subst e
    have hi : i < cs.length := by
      have := (List.getElem?_eq_some_iff.1 hu).1
      simpa using this
    rw [List.getElem?_set_self hi] at hu
    injection hu with hu
    subst hu
    have := h i cs[i] (List.getElem?_eq_getElem hi)
    rw [Nat.zero_add] at this
    exact World.cell?_setCell_same _ _ _ this
  · rw [List.getElem?_set_ne e] at hu
    have := h j u hu
    rw [Nat.zero_add] at this
    exact (World.cell?_setCell_other _ _ _ _ (fun e2 => by first | exact e (congrArg Addr.off e2).symm | exact e (congrArg Addr.off e2))).trans this
theorem rec_set0 {K K' S : Int} {d : List UInt8} {A : Option Addr} {n c : Nat} : (recL K S d A n c).set 0 (.int .i64 K') = recL K' S d A n c := rfl
theorem rec_set34 {K S : Int} {d : List UInt8} (hd : d.length = 32) {A A' : Option Addr} {n c n' c' : Nat} : (recL K S d A n c).set 34 (.slice A' n' c') = recL K S d A' n' c' := by
  unfold recL
  rw [show (34 : Nat) = 32 + 1 + 1 from rfl, List.set_cons_succ, List.set_cons_succ, List.set_append_right _ _ (by rw [bv_len]; omega), bv_len, hd]
  rfl
theorem there_set1 {w : World} {b' o' n : Nat} (h : w.there b' o' n) (b i : Nat) (v : Value) : (w.setCell ⟨b, i, none⟩ v).there b' o' n := by
  have := World.there_setCells h b i [v]
  simpa [World.setCells] using this
/-- bytes.Clone -/
theorem bclone_any (A : Option Addr) (n c B : Nat) (l : List UInt8) (w : World) (h : Rd w B A n (bv l)) (hB : B ≤ w.heap.size) (hn : n ≤ 140737488351232) :
    Calls Tryd.prog 36 #[.slice A n c] w fun e w' => ∃ A N c, e = .returned (.slice A N c) ∧ Ow w' w.heap.size 5 A N c (bv l) ∧ Below w.heap.size w w' := by
  have hnil := fun (a : Option Addr) => Lib.run_eql_slice_nil w _ _ a n c 0 0 Tryd.underlying24
  cases A with
  | none =>
    have h0 : l = [] := by
      rcases Nat.eq_zero_or_pos n with h0 | h0
      · exact List.eq_nil_of_length_eq_zero (by rw [← bv_len, h.len, h0])
      · obtain ⟨b, off, e, _⟩ := h.addr h0; cases e
    subst h0
    have Hh := Lib.hid h
    clear h
    go_enter Tryd.func36, Tryd.ntmps36
    go_wp2
    go_ret
    exact ⟨_, _, _, rfl, Ow.nil w _ _, Below.refl _ _⟩
  | some ad =>
    have hb : Below B w (w.alloc (.cells #[] 5)) := (Below.refl _ _).alloc hB _
    have h2 := h.below hb (Nat.le_refl _)
    have ho := Ow.lit w 5 [] (base := w.heap.size) (Nat.le_refl _) (by simp [maxLen])
    go_enter Tryd.func36, Tryd.ntmps36
    go_wp2_with (at_builtin; refine wp_app oct.u8ty rfl (.tmp 5) (.tmp 6) rfl rfl rfl ho h2 (bv_one l) (by simp; omega) (by simp; omega) (by simp) ?_; intro A' N c' w1 ho1 _ hb1 _)
    go_ret
    exact ⟨_, _, _, rfl, by simpa using ho1, (Below.alloc (Below.refl _ _) (Nat.le_refl _) _).trans hb1⟩
end Go.Proofs.YtbcgnacfhpahkaaDoor.rc
