/- ChunkAlike: for every input the law answers true and leaves its arguments as they were. -/
import Derived.Test.YtjmgokjflfhohaaRows
import Derived.Test.YtjmgokjflfhohaaChE
import Derived.ProofKit
import Derived.OpenShut
import Derived.ShutString
import Derived.ChangeOld
namespace Go.Proofs.Ytjmgokjflfhohaa.chunkAlikeDone
open Go.RowKit Mem rb ch
set_option linter.unusedVariables false
theorem kept_rdB {w w' : World} {bad : Nat → Prop} {B n : Nat} {A : Option Addr} {xs : List Value} (h : Kept w w' bad) (hr : Rd w B A n xs) (hB : B ≤ w.heap.size) (hb : ∀ i, i < B → ¬ bad i) : Rd w' B A n xs := by
  refine ⟨hr.len, fun hn => ?_⟩
  obtain ⟨c, off, rfl, hc, hcell⟩ := hr.addr hn
  have hnc := hb c hc
  refine ⟨c, off, rfl, hc, fun k hk => ?_⟩
  rw [h.cell (a := ⟨c, off + k, none⟩) (show c < w.heap.size by omega) hnc]
  exact hcell k hk
theorem rd_if {w : World} {B n c N : Nat} {A : Option Addr} {xs : List Value} (h : Rd w B A n xs) (hN : N ≤ n) (hc : n ≤ c) : Rd w B (if c = N then A else Option.map (fun x => x.add N) A) (n - N) (xs.drop N) := by
  have hl := h.len
  by_cases e : c = N
  · have hz : n - N = 0 := by omega
    refine ⟨by rw [List.length_drop]; omega, fun hp => by omega⟩
  · rw [if_neg e]
    have hh := h.cut (l := N) (m := n - N) (by omega) (A' := Option.map (fun x => x.add N) A) (fun _ => rfl)
    rw [List.take_of_length_le (by rw [List.length_drop]; omega)] at hh
    exact hh
theorem rows_take {w : World} {base : Nat} {vs : List Value} {xs : List (List UInt8)} (h : ch.Rows w base vs xs) : ∀ k, ch.Rows w base (vs.take k) (xs.take k) := by
  induction h with
  | nil => intro k; simp; exact .nil
  | cons h1 _ ih =>
    intro k
    cases k with
    | zero => exact .nil
    | succ k => exact .cons h1 (ih k)
theorem rows_drop {w : World} {base : Nat} {vs : List Value} {xs : List (List UInt8)} (h : ch.Rows w base vs xs) : ∀ k, ch.Rows w base (vs.drop k) (xs.drop k) := by
  induction h with
  | nil => intro k; simp; exact .nil
  | cons h1 h2 ih =>
    intro k
    cases k with
    | zero => exact .cons h1 h2
    | succ k => exact ih k
theorem rows_parts {w : World} {B base n : Nat} {A : Option Addr} {vs : List Value} {ls : List (List UInt8)} (h : ch.Rows w base vs ls) (hr : Rd w B A n vs) (hB : w.heap.size ≤ B) : Parts w B A n ls := by
  refine ⟨by have h1 := hr.len; have h2 := h.len; omega, vs, hr, fun i hi => ?_⟩
  obtain ⟨Ai, ni, ki, e1, e2⟩ := h.at_ i hi
  have hl := e2.len
  rw [bv_len] at hl
  subst hl
  exact ⟨Ai, ki, e1, e2.cap.1, e2.rd.more hB⟩
set_option maxRecDepth 100000 in
theorem walk (p : Int) (A : Option Addr) (n c : Nat) (l : List UInt8) (kk : Int) (w : World) (hp : (Lit.int .u64 p).wf = true) (hr : Rd w w.heap.size A n (bv l)) (hc : n ≤ c) (hn : n ≤ 9223372036854775807) (hkk : (Lit.int .i64 kk).wf = true) :
    Calls Try.prog 8 #[.int .u64 p, .slice A n c, .int .i64 kk] w fun e w' => e = .returned (.bool true) ∧ Below w.heap.size w w' := by
  replace hp := u64_nat hp
  obtain ⟨p, rfl, hp⟩ := hp
  by_cases hlong : 8192 < n
  · go_enter Try.func8, Try.ntmps8
    go_wp2_with (go_at_call 12; refine (awake_any _).mono ?_; rintro e w4 ⟨rfl, hb4⟩)
    go_ret
    exact ⟨rfl, hb4⟩
  · have hq := good_log (tq_good p)
    have hT := fresh_tab (tq p) w
    have hb : Below w.heap.size w (w.alloc (.cells (freshT (tq p)) 75)) := (Below.refl _ w).alloc (Nat.le_refl _) _
    have hsz : (w.alloc (.cells (freshT (tq p)) 75)).heap.size = w.heap.size + 1 := by simp
    have HT := fun w => Lib.hid (table_any p w hp)
    obtain ⟨q, hqd⟩ : ∃ q, tq p = q := ⟨_, rfl⟩
    unfold TablePost at HT
    rw [hqd] at hq hT hb hsz HT
    clear hqd
    have HS := Lib.hid (And.intro hb hsz)
    clear hb hsz
    have HL := Lib.hid (show l.length = n by rw [← bv_len, hr.len])
    obtain ⟨kk0, kk1⟩ := int_wf hkk
    go_enter Try.func8, Try.ntmps8
    go_wp2_with fail
    refine (HT w).out.mono ?_
    rintro e w1 ⟨rfl, hw1⟩
    rw [← hw1] at hT HS
    clear hw1 HT
    have s1 := HS.out.2
    have hb1 := HS.out.1
    clear HS
    have hr1 := hr.below hb1 (Nat.le_refl _)
    go_wp2_with fail
    refine (all_any A n c w.heap.size l w1 hq (Or.inl hT) (fun w' hk => kept_rdB hk hr1 hb1.size (fun i hi e => by omega)) (by omega)).mono ?_
    rintro e w2 ⟨A2, n2, k2, vs, rfl, hA⟩
    have hP := hA.rows.parts hA.row
    have hb2 : Below w.heap.size w w2 := hA.kept.below hb1 hb1.size (fun i hi e => by omega)
    have hr2 := hr.below hb2 (Nat.le_refl _)
    have hfew := all_few (rule_ok q) l
    have hlen := hP.len
    have hll := HL.out
    by_cases z : n2 = 0
    · subst z
      have hl0 : l = [] := by
        have h0 : allF (rule q) l = [] := List.eq_nil_of_length_eq_zero (by omega)
        have := all_whole (rule q) l
        rw [h0] at this; exact this.symm
      have hn0 : n = 0 := by rw [hl0] at hll; exact hll.symm
      subst hn0
      clear hP hA hfew hlen hll hT hr1 hr2 hl0 HL
      go_wp2_with (go_at_call 12; refine (awake_any _).mono ?_; rintro e w5 ⟨rfl, hb5⟩)
      go_ret
      exact ⟨rfl, hb2.trans (hb5.mono hb2.size)⟩
    · have hnp : (0 : Int) < (n2 : Int) := by omega
      have hnz : ¬ (n2 : Int) = 0 := by omega
      obtain ⟨U, hU⟩ : ∃ U : Nat, IntKind.u64.wrap kk = (U : Int) := ⟨(IntKind.u64.wrap kk).toNat, by rw [IntKind.wrap_u64]; omega⟩
      obtain ⟨K, hK⟩ : ∃ K : Nat, U % n2 = K := ⟨_, rfl⟩
      have hKn : K < n2 := by rw [← hK]; exact Nat.mod_lt _ (by omega)
      have he : wrap64 ((IntKind.u64.wrap kk).tmod (n2 : Int)) = (K : Int) := by
        have e1 : ((U : Int)).tmod (n2 : Int) = (K : Int) := by rw [← hK]; exact (Int.ofNat_tmod U n2).symm
        rw [hU, e1]
        unfold wrap64; omega
      clear hU
      have hcap := hA.row.cap.1
      clear hK
      go_wp2_with (refine wp_cut_h sty rfl (.tmp 39) (.tmp 40) rfl rfl rfl hA.row.rd (by omega) (by omega) hcap ?_; intro A5 n5 hn5 hr5)
      have hn5' : n5 = K := by omega
      subst hn5'
      rw [he, Int.toNat_natCast] at hr5
      clear hn5
      have hP5 := rows_parts (rows_take hA.rows n5) hr5 (Nat.le_refl _)
      obtain ⟨N, hN⟩ : ∃ N, ((allF (rule q) l).take n5).flatten.length = N := ⟨_, rfl⟩
      have hdrop := all_drop (e := rule q) n5 l (by omega)
      rw [hN] at hdrop
      have hNn : N ≤ n := by
        have h1 := congrArg List.length (all_whole (rule q) l)
        conv at h1 => lhs; rw [← List.take_append_drop n5 (allF (rule q) l), List.flatten_append, List.length_append]
        omega
      have hkt := tot_flat ((allF (rule q) l).take n5)
      rw [hN] at hkt
      have hCC := Lib.hid (concat_any A5 n5 k2 w2.heap.size ((allF (rule q) l).take n5) w2 hP5 (Nat.le_refl _) (by omega) (by omega))
      refine hCC.out.mono ?_
      rintro e w3 ⟨A6, n6, k6, rfl, ho6, hb6⟩
      have hn6 : n6 = N := by rw [← hN, ← bv_len]; exact ho6.len.symm
      subst hn6
      have s2 := hb2.size
      have s3 := hb6.size
      have hrow3 := hA.row.below hb6 (Nat.le_refl _)
      have hrows3 := hA.rows.kept (Kept.of ⟨hb6.os, hb6.tape, hb6.output, hb6.size, fun k hk _ => hb6.block k hk⟩ : Kept w2 w3 (fun i => (none : Option Nat) = some i)) (fun B n k hm i hi e => by cases e)
      have hT3 := hA.tab.below hb6 hA.tab.lt
      have hb3 : Below w.heap.size w w3 := hb2.trans (hb6.mono s2)
      have hr3 := hr.below hb3 (Nat.le_refl _)
      have hoff := hA.off
      clear ho6 hCC hkt hP5 hr5 hA hP hT
      have hNi : (n6 : Int) ≤ (n : Int) := by omega
      have hKi : (n5 : Int) ≤ (n2 : Int) := by omega
      have hALL := Lib.hid (all_any (if c = n6 then A else Option.map (fun x => x.add n6) A) (n - n6) (c - n6) w.heap.size (l.drop n6) w3.drew hq (Or.inr hT3.drew) (fun w' hk => by
        have := rd_if (kept_rdB hk hr3.drew hb3.size (fun i hi e => by omega)) hNn hc
        rwa [← bv_drop] at this) (by omega))
      have hSAME : ∀ (A7 : Option Addr) (n7 k7 : Nat) (vs7 : List Value) (w7 : World), AllB w.heap.size q (l.drop n6) w3.drew w7 A7 n7 k7 vs7 → Calls Try.prog 18 #[.slice A7 n7 k7, .slice (if k2 = n5 then A2 else Option.map (fun x => x.add n5) A2) (n2 - n5) (k2 - n5)] w7 fun e w' => e = .returned (.bool true) ∧ w7 = w' := by
        intro A7 n7 k7 vs7 w7 h7
        have r7 := hrows3.kept (w' := w3.drew) (bad := fun _ => False) ⟨rfl, rfl, rfl, Nat.le_refl _, fun _ _ _ => rfl⟩ (fun _ _ _ _ _ _ e => e)
        have r8 := r7.kept h7.kept (fun B n k hm i hi e => hoff B n k hm i hi (Or.inl e))
        have o8 := h7.kept.ow (Ow.drew hrow3) (fun i hi e => by
          have := (hrow3.blk_lt i hi).1
          omega)
        have P1 := h7.rows.parts h7.row
        have P2 := rows_parts (rows_drop r8 n5) (rd_if o8.rd (by omega) hcap) (Nat.le_refl _)
        have hn7 := P1.len
        have hf7 := all_few (rule_ok q) (l.drop n6)
        rw [List.length_drop] at hf7
        have := sameL_any A7 _ n7 (n2 - n5) k7 (k2 - n5) _ _ _ _ w7 P1 P2 (by omega) (by omega)
        rw [hdrop, decide_eq_true rfl] at this
        exact this
      have HSAME := Lib.hid hSAME
      have hbd := hb3.drew
      have hbs := hb3.size
      clear hSAME hrow3 hrows3 hoff hT3 hr3 hr1 hr2 hdrop hN hfew hlen hll
      go_wp2_with fail
      go_region_law (first
        | (go_simp; go_at_call 15; refine hALL.out.mono ?_; rintro e w7 ⟨A7, n7, k7, vs7, rfl, hA7⟩)
        | (go_simp; go_at_call 18; refine (HSAME.out A7 n7 k7 vs7 _ hA7).mono ?_; rintro e w8 ⟨rfl, rfl⟩)
        | (go_simp; go_at_call 12; refine (awake_any _).mono ?_; rintro e w9 ⟨rfl, hb9⟩))
      all_goals
        have hb7 : Below w.heap.size w w7 := hA7.kept.below hbd hbs (fun i hi e => by omega)
        go_wp2_with (go_at_call 12; refine (awake_any _).mono ?_; rintro e w9 ⟨rfl, hb9⟩)
        all_goals go_ret
        all_goals exact ⟨rfl, hb7.trans (hb9.mono hb7.size)⟩
end Go.Proofs.Ytjmgokjflfhohaa.chunkAlikeDone
namespace Go.Proofs.Ytjmgokjflfhohaa.chunkAlikeDone
open Go.ChangeShapes Go.WideShapes Go.ChangeAt Go.RowKit Mem rb ch
set_option linter.unusedVariables false
theorem own : ownKnob Try.prog.godebug = none := by kernel_rfl
theorem laidOut : laidOutB Try.prog = true := by kernel_rfl
set_option maxRecDepth 100000 in
theorem lifted (os : Os) (started : os.Started) (H : Type) (enc : TypeId × Value → H) :
    ReturnsInHanded {} Try.checked os 8 .any (Rows.chunkAlikeSpec.pre6 enc Try.prog Try.f8 Rows.chunkAlikeRow.domain false) (Rows.chunkAlikeSpec.post enc Try.prog Try.f8 false true false false) := by
  refine returnsInHanded_of_change (C := Try.checked) own started (by kernel_rfl) Try.func8
    (ChangeSpec.witness6 (enc := enc) (C := Try.checked) false ⟨#[], #[.int .u64 0, .slice none 0 0, .int .i64 0], []⟩ 8 (by kernel_rfl) (by kernel_rfl) (by kernel_rfl) (by kernel_rfl)) ?_
  intro W base args ds gs before hval0 hW hcnd _
  have hval : ∀ (j : Nat) t v, Try.f8.params[j]? = some t → args[j]? = some v → Value.okWide Try.prog W .any base t v := hval0
  have hW' := hW
  obtain ⟨p, q, hA0, hV, rfl, hfz, hnd⟩ := hW
  have hA : DataW.TrodAll enc Try.prog W 0 (fun _ => true) true Try.f8.params.toList args.toList ds p := hA0
  rw [Try.params8] at hA hval
  obtain ⟨v0, vs0, d0, ds0, p0, q0, hargs, rfl, rfl, h0, r0⟩ := trodAll_cons hA
  obtain ⟨v1, vs1, d1, ds1, p1, q1, rfl, rfl, rfl, h1, r1⟩ := trodAll_cons r0
  obtain ⟨v2, vs2, d2, ds2, p2, q2, rfl, rfl, rfl, h2, r2⟩ := trodAll_cons r1
  obtain ⟨rfl, rfl, rfl⟩ := trodAll_nil r2
  obtain rfl : args = #[v0, v1, v2] := by cases args; simp_all
  obtain ⟨rfl, rfl⟩ := trodVars_none hV
  obtain ⟨a0, rfl, rfl, rfl, w0⟩ := open_int Try.underlying22 (hval 0 22 v0 rfl rfl) h0
  obtain ⟨a1, n1, c1, rfl⟩ := okWide_slice Try.underlying23 (hval 1 23 v1 rfl rfl)
  have k1 := h1
  have lt1 : ∀ x ∈ p1, x.block < W.heap.size := by obtain ⟨m, hm⟩ := k1; exact DataW.trod_lt m _ _ _ hm
  obtain ⟨l1, w1, m1, b1⟩ : ∃ l : List UInt8, Rd W W.heap.size a1 n1 (bv l) ∧ n1 ≤ c1 ∧ n1 ≤ 9223372036854775807 := by
    obtain ⟨fuel, hf⟩ := h1
    rcases open_ints Try.underlying23 Try.underlying5 (by kernel_rfl) hf with ⟨hcs, _⟩ | ⟨x, l, c, zs, hcs, _, hl, hm, hz, _, hcell, hwz⟩
    · simp [Value.cells] at hcs
      obtain ⟨rfl, rfl, rfl⟩ := hcs
      exact ⟨[], Rd.nil _ _ _, Nat.le_refl _, by omega⟩
    · simp [Value.cells] at hcs
      obtain ⟨rfl, rfl, rfl⟩ := hcs
      unfold maxLen at hm
      obtain ⟨l, hl2⟩ := rd_bytes hl (by simpa using hz) hcell hwz
      exact ⟨l, hl2, hl, by omega⟩
  obtain ⟨a2, rfl, rfl, rfl, w2⟩ := open_int Try.underlying3 (hval 2 3 v2 rfl rfl) h2
  clear hA0 hval0
  refine (walk a0 a1 n1 c1 l1 a2 W w0 w1 m1 b1 w2).mono fun e W' ⟨he, bel⟩ => ?_
  subst he
  exact ⟨_, rfl, _, _, _, [], _, [], hW', trodAll_mk1 (shut_bool Try.underlying4 _), (trodAll_cons_mk (shut_int Try.underlying22 w0) (trodAll_cons_mk (Below.trod laidOut (by kernel_rfl) (of_decide_eq_true (by kernel_rfl)) k1 bel lt1) (trodAll_cons_mk (shut_int Try.underlying3 w2) trodAll_mk0))), rfl, bel.frame _, fun h => by cases h⟩

theorem over : Rows.chunkAlikeRow.holds Try.pinned (OpenSpec.ofChange Rows.chunkAlikeSpec) :=
  OpenClaim.holds_of_wide 8 Try.f8 rfl rfl rfl rfl rfl rfl rfl ⟨rfl, rfl, rfl, rfl, rfl⟩ rfl rfl rfl rfl rfl (by kernel_rfl) Try.func8 (by kernel_rfl)
    (of_decide_eq_true (by kernel_rfl)) (by unfold Func.isWrapper; first | (rw [if_pos (by decide +kernel)]; kernel_rfl) | (rw [if_neg (by decide +kernel)]; exact ⟨rfl, rfl⟩))
    (fun os started H enc _ => lifted os started H enc)
/-- the given statement -/
theorem proved : Rows.ChunkAlikeSaid := over
#print axioms proved
end Go.Proofs.Ytjmgokjflfhohaa.chunkAlikeDone
