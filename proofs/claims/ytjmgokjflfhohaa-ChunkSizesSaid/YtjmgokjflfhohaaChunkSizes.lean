/- ChunkSizes: for every input the law answers true and leaves its arguments as they were. -/
import Derived.Test.YtjmgokjflfhohaaRows
import Derived.Test.YtjmgokjflfhohaaChE
import Derived.ProofKit
import Derived.OpenShut
import Derived.ShutString
import Derived.ChangeOld
namespace Go.Proofs.Ytjmgokjflfhohaa.chunkSizesDone
open Go.RowKit Mem rb ch
set_option linter.unusedVariables false
theorem kept_rdB {w w' : World} {bad : Nat → Prop} {B n : Nat} {A : Option Addr} {xs : List Value} (h : Kept w w' bad) (hr : Rd w B A n xs) (hB : B ≤ w.heap.size) (hb : ∀ i, i < B → ¬ bad i) : Rd w' B A n xs := by
  refine ⟨hr.len, fun hn => ?_⟩
  obtain ⟨c, off, rfl, hc, hcell⟩ := hr.addr hn
  have hnc := hb c hc
  refine ⟨c, off, rfl, hc, fun k hk => ?_⟩
  rw [h.cell (a := ⟨c, off + k, none⟩) (show c < w.heap.size by omega) hnc]
  exact hcell k hk
theorem tot_le_of {x : List UInt8} {cs : List (List UInt8)} (k : Nat) (hk : k < cs.length) (h : cs[k] = x) : tot (cs.take (k + 1)) = tot (cs.take k) + x.length := by rw [tot_take cs k hk, h]
set_option maxRecDepth 100000 in
theorem walk (p : Int) (A : Option Addr) (n c : Nat) (l : List UInt8) (w : World) (hp : (Lit.int .u64 p).wf = true) (hr : Rd w w.heap.size A n (bv l)) (hc : n ≤ c) (hn : n ≤ 9223372036854775807) :
    Calls Try.prog 7 #[.int .u64 p, .slice A n c] w fun e w' => e = .returned (.bool true) ∧ Below w.heap.size w w' := by
  replace hp := u64_nat hp
  obtain ⟨p, rfl, hp⟩ := hp
  by_cases hlong : 8192 < n
  · go_enter Try.func7, Try.ntmps7
    go_wp2_with (go_at_call 12; refine (awake_any _).mono ?_; rintro e w4 ⟨rfl, hb4⟩)
    go_ret
    exact ⟨rfl, hb4⟩
  · have hq := good_log (tq_good p)
    have hT := fresh_tab (tq p) w
    have hb : Below w.heap.size w (w.alloc (.cells (freshT (tq p)) 75)) := (Below.refl _ w).alloc (Nat.le_refl _) _
    have hsz : (w.alloc (.cells (freshT (tq p)) 75)).heap.size = w.heap.size + 1 := by simp
    have HT := fun w => Lib.hid (table_any p w hp)
    obtain ⟨q, hqd⟩ : ∃ q, tq p = q := ⟨_, rfl⟩
    unfold TablePost at HT
    rw [hqd] at hq hT hb hsz HT
    clear hqd
    have HS := Lib.hid (And.intro hb hsz)
    clear hb hsz
    have HL := Lib.hid (show l.length = n by rw [← bv_len, hr.len])
    go_enter Try.func7, Try.ntmps7
    go_wp2_with fail
    refine (HT w).out.mono ?_
    rintro e w1 ⟨rfl, hw1⟩
    rw [← hw1] at hT HS
    clear hw1 HT
    have s1 := HS.out.2
    have hb1 := HS.out.1
    clear HS
    have hr1 := hr.below hb1 (Nat.le_refl _)
    go_wp2_with fail
    refine (new_any w.heap.size q w1 hq (Or.inl hT)).mono ?_
    rintro e w2 ⟨c2, r2, rfl, hcw, hrw, hC, hK2⟩
    have hs2 := hK2.size
    have hb2 : Below w.heap.size w w2 := hK2.below hb1 hb1.size (fun i hi e => by omega)
    have HC := Lib.hid hC
    clear hC hT
    go_wp2_with fail
    refine (write_any (hist := []) none 0 0 w1.heap.size A n c w.heap.size l w2 hq HC.out (by decide) hs2 (fun w' hk => kept_rdB hk (hr.below hb2 (Nat.le_refl _)) hb2.size (fun i hi e => by
      rcases e with e | e | e
      · omega
      · omega
      · cases e)) (by omega)).mono ?_
    rintro e w3 ⟨A3, n3, k3, vs, A4, m4, k4, rfl, hI⟩
    have hb3 : Below w.heap.size w w3 := hI.kept.below hb2 hb2.size (fun i hi e => by
      rcases e with e | e | e
      · omega
      · omega
      · cases e)
    have hP := hI.rows.parts (hI.row.base hs2)
    obtain ⟨h', hc4⟩ := hI.cut
    have hm4 : m4 = (cutF (rule q) [] l).2.length := by have := hc4.row.len; rw [bv_len] at this; exact this.symm
    have hsz := cut_sizes (rule_ok q) l [] (by decide)
    have hwh := congrArg List.length (cut_whole (rule q) l [])
    rw [List.length_append, List.nil_append, ← tot_flat, ← hm4, HL.out] at hwh
    have hpl := hP.len
    have hn3 : n3 ≤ 8192 := by have := cut_count (rule q) l []; have := HL.out; omega
    have HP : Hid (Calls Try.prog 23 #[.pointer (some ⟨c2, 0, none⟩)] w3 fun e w' => e = .returned (.int .i64 (m4 : Nat)) ∧ w3 = w') := Lib.hid (pending_any A4 m4 k4 _ w3 hc4)
    have hm256 : m4 < 256 := by rw [hm4]; exact hsz.2
    have hs3 := hsz.1
    clear hc4 hm4 hsz hI HC
    generalize (cutF (rule q) [] l).1 = cs at *
    have HPL := Lib.hid hpl
    have HWH := Lib.hid hwh
    clear hpl hwh
    go_wp2_with fail
    go_loop [8, 10, 26, 27, 28, 29, 30, 31, 32, 33, 34, 35, 36, 37, 38, 39, 40, 41, 42] (fun v8 _ v26 _ _ _ _ _ _ _ _ _ _ _ _ _ _ _ _ => ∃ k S : Nat, v8 = .int .i64 (S : Nat) ∧ v26 = .int .i64 (k : Nat) ∧ k ≤ n3 ∧ S ≤ 8192 ∧ Hid (S = tot (cs.take k))) (fun _ _ v _ _ _ _ _ _ _ _ _ _ _ _ _ _ _ _ => n3 - (intOf v).toNat)
    case atStart => exact ⟨0, 0, rfl, rfl, by omega, by omega, Lib.hid rfl⟩
    case round =>
      obtain ⟨k, S, rfl, rfl, hk, hS, HSS⟩ := hrel
      by_cases hlt : k < n3
      · obtain ⟨bb, oo, Ai, ni, ci, x, rfl, _, hcell, _, _, ⟨hkl, hel⟩, hni⟩ := hP.at_ hlt
        have hx := hs3 x (by rw [← hel]; exact List.getElem_mem _)
        rw [← hni] at hx
        have ht := tot_le_of k hkl hel
        have ht2 := tot_take_le cs (k + 1)
        rw [← HSS.out, ← hni] at ht
        have hSn : S + ni ≤ 8192 := by have := HWH.out; omega
        have HT2 := Lib.hid ht
        have g1 : ¬ (ni : Int) < 32 := by omega
        have g2 : ¬ (256 : Int) < (ni : Int) := by omega
        have hk1 : (k : Int) < (n3 : Int) := by omega
        clear ht ht2 hel hni hx
        go_wp2_with fail
        go_round
        case rel => exact ⟨k + 1, S + ni, by go_num, by go_num, by omega, hSn, Lib.hid HT2.out.symm⟩
        case measure => simp only [intOf]; omega
      · have hSt : S = tot cs := by rw [HSS.out, List.take_of_length_le (by have := HPL.out; omega)]
        have hSm : (m4 : Int) = (n : Int) - (S : Int) := by have := HWH.out; omega
        have hm5 : (m4 : Int) < 256 := by omega
        clear hSt HSS
        go_wp2_with (first
          | (go_at_call 23; refine HP.out.mono ?_; rintro e w' ⟨rfl, rfl⟩)
          | (go_at_call 12; refine (awake_any _).mono ?_; rintro e w5 ⟨rfl, hb5⟩))
        go_ret
        exact ⟨rfl, hb3.trans (hb5.mono hb3.size)⟩
end Go.Proofs.Ytjmgokjflfhohaa.chunkSizesDone
namespace Go.Proofs.Ytjmgokjflfhohaa.chunkSizesDone
open Go.ChangeShapes Go.WideShapes Go.ChangeAt Go.RowKit Mem rb ch
set_option linter.unusedVariables false
theorem own : ownKnob Try.prog.godebug = none := by kernel_rfl
theorem laidOut : laidOutB Try.prog = true := by kernel_rfl
set_option maxRecDepth 100000 in
theorem lifted (os : Os) (started : os.Started) (H : Type) (enc : TypeId × Value → H) :
    ReturnsInHanded {} Try.checked os 7 .any (Rows.chunkSizesSpec.pre6 enc Try.prog Try.f7 Rows.chunkSizesRow.domain false) (Rows.chunkSizesSpec.post enc Try.prog Try.f7 false true false false) := by
  refine returnsInHanded_of_change (C := Try.checked) own started (by kernel_rfl) Try.func7
    (ChangeSpec.witness6 (enc := enc) (C := Try.checked) false ⟨#[], #[.int .u64 0, .slice none 0 0], []⟩ 8 (by kernel_rfl) (by kernel_rfl) (by kernel_rfl) (by kernel_rfl)) ?_
  intro W base args ds gs before hval0 hW hcnd _
  have hval : ∀ (j : Nat) t v, Try.f7.params[j]? = some t → args[j]? = some v → Value.okWide Try.prog W .any base t v := hval0
  have hW' := hW
  obtain ⟨p, q, hA0, hV, rfl, hfz, hnd⟩ := hW
  have hA : DataW.TrodAll enc Try.prog W 0 (fun _ => true) true Try.f7.params.toList args.toList ds p := hA0
  rw [Try.params7] at hA hval
  obtain ⟨v0, vs0, d0, ds0, p0, q0, hargs, rfl, rfl, h0, r0⟩ := trodAll_cons hA
  obtain ⟨v1, vs1, d1, ds1, p1, q1, rfl, rfl, rfl, h1, r1⟩ := trodAll_cons r0
  obtain ⟨rfl, rfl, rfl⟩ := trodAll_nil r1
  obtain rfl : args = #[v0, v1] := by cases args; simp_all
  obtain ⟨rfl, rfl⟩ := trodVars_none hV
  obtain ⟨a0, rfl, rfl, rfl, w0⟩ := open_int Try.underlying22 (hval 0 22 v0 rfl rfl) h0
  obtain ⟨a1, n1, c1, rfl⟩ := okWide_slice Try.underlying23 (hval 1 23 v1 rfl rfl)
  have k1 := h1
  have lt1 : ∀ x ∈ p1, x.block < W.heap.size := by obtain ⟨m, hm⟩ := k1; exact DataW.trod_lt m _ _ _ hm
  obtain ⟨l1, w1, m1, b1⟩ : ∃ l : List UInt8, Rd W W.heap.size a1 n1 (bv l) ∧ n1 ≤ c1 ∧ n1 ≤ 9223372036854775807 := by
    obtain ⟨fuel, hf⟩ := h1
    rcases open_ints Try.underlying23 Try.underlying5 (by kernel_rfl) hf with ⟨hcs, _⟩ | ⟨x, l, c, zs, hcs, _, hl, hm, hz, _, hcell, hwz⟩
    · simp [Value.cells] at hcs
      obtain ⟨rfl, rfl, rfl⟩ := hcs
      exact ⟨[], Rd.nil _ _ _, Nat.le_refl _, by omega⟩
    · simp [Value.cells] at hcs
      obtain ⟨rfl, rfl, rfl⟩ := hcs
      unfold maxLen at hm
      obtain ⟨l, hl2⟩ := rd_bytes hl (by simpa using hz) hcell hwz
      exact ⟨l, hl2, hl, by omega⟩
  clear hA0 hval0
  refine (walk a0 a1 n1 c1 l1 W w0 w1 m1 b1).mono fun e W' ⟨he, bel⟩ => ?_
  subst he
  exact ⟨_, rfl, _, _, _, [], _, [], hW', trodAll_mk1 (shut_bool Try.underlying4 _), (trodAll_cons_mk (shut_int Try.underlying22 w0) (trodAll_cons_mk (Below.trod laidOut (by kernel_rfl) (of_decide_eq_true (by kernel_rfl)) k1 bel lt1) trodAll_mk0)), rfl, bel.frame _, fun h => by cases h⟩

theorem over : Rows.chunkSizesRow.holds Try.pinned (OpenSpec.ofChange Rows.chunkSizesSpec) :=
  OpenClaim.holds_of_wide 7 Try.f7 rfl rfl rfl rfl rfl rfl rfl ⟨rfl, rfl, rfl, rfl, rfl⟩ rfl rfl rfl rfl rfl (by kernel_rfl) Try.func7 (by kernel_rfl)
    (of_decide_eq_true (by kernel_rfl)) (by unfold Func.isWrapper; first | (rw [if_pos (by decide +kernel)]; kernel_rfl) | (rw [if_neg (by decide +kernel)]; exact ⟨rfl, rfl⟩))
    (fun os started H enc _ => lifted os started H enc)
/-- the given statement -/
theorem proved : Rows.ChunkSizesSaid := over
#print axioms proved
end Go.Proofs.Ytjmgokjflfhohaa.chunkSizesDone
