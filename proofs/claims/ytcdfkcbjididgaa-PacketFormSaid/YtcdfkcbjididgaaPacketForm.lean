/- PacketForm: for every input the law answers true and leaves its arguments as they were. -/
import Derived.Test.YtcdfkcbjididgaaRows
import Derived.Test.YtcdfkcbjididgaaPkO
import Derived.ProofKit
import Derived.OpenShut
import Derived.ShutString
import Derived.ChangeOld
namespace Go.Proofs.Ytcdfkcbjididgaa.packetFormDone
open Go.RowKit Mem SM lib sum PM pk
set_option linter.unusedVariables false
set_option maxRecDepth 20000 in
set_option maxHeartbeats 16000000 in
theorem walk (A : Option Addr) (n c : Nat) (l : List UInt8) (w : World) (h : Rd w w.heap.size A n (bv l)) (hc : n ≤ c) (hn : n ≤ 9223372036854775807) :
    Calls Try.prog 6 #[.slice A n c] w fun e w' => e = .returned (.bool true) ∧ Below w.heap.size w w' := by
  by_cases hbig : 16384 < n
  · go_enter Try.func6, Try.ntmps6
    go_wp2_with fail
    refine (awake_any _).mono ?_
    rintro e w1 ⟨rfl, hb1⟩
    go_wp2
    go_ret
    exact ⟨rfl, hb1⟩
  · have hget := get_any A n c _ l w h (Nat.le_refl _) hc (by omega)
    unfold GetPost at hget
    have HL := Lib.hid (show l.length = n by rw [← bv_len, h.len])
    by_cases he : errOf l = 0
    · obtain ⟨hok, hput, hpk⟩ := err_zero l he
      obtain ⟨q, hq⟩ : ∃ q, q = parse1 l := ⟨_, rfl⟩
      have hu : u32P q := by rw [hq]; exact parse1_u32 l
      rw [he, hpk] at hget
      rw [← hq] at hget hok hput
      have HGET := Lib.hid hget
      have HOK := Lib.hid hok
      have HPB := Lib.hid hput
      clear hget hok hput hpk he hq
      go_enter Try.func6, Try.ntmps6
      go_wp2_with fail
      refine HGET.out.mono ?_
      rintro e w2 ⟨A3, N3, C3, rfl, ho3, hb2⟩
      obtain ⟨w3, hw3⟩ : ∃ w3, w3 = w2.alloc (pkO q A3 N3 C3) := ⟨_, rfl⟩
      obtain ⟨g3, hg3⟩ : ∃ g3, g3 = w2.heap.size := ⟨_, rfl⟩
      have hP3 : PkAt w3 g3 q A3 N3 C3 := by rw [hw3, hg3]; exact PkAt.new _ _ _ _ _
      have hb23 : Below w2.heap.size w2 w3 := by rw [hw3]; exact (Below.refl _ _).alloc (Nat.le_refl _) _
      have hb03 : Below w.heap.size w w3 := hb2.trans (hb23.mono hb2.size)
      obtain ⟨d0, d1, d2, d3, d4, d5, d6, d7, d8, d9, d10⟩ := hP3
      have hN3 : N3 ≤ 9223372036854775807 := by
        have h1 := ho3.cap
        unfold maxLen at h1
        omega
      have hput := put_any q A3 N3 C3 _ w3 (ho3.below hb23 (Nat.le_refl _)).rd (Nat.le_refl _) ho3.cap.1 hN3 hu
      unfold PutPost at hput
      rw [chk_ok HOK.out, show putR q = putB q from if_pos HOK.out, HPB.out] at hput
      have HPUT := Lib.hid hput
      have HW3 := Lib.hid hw3
      have HG3 := Lib.hid hg3
      clear hput hw3 hg3
      unfold pkV
      go_upto_region 4 with fail
      have hw4 : w2.alloc (.cells #[.int .i64 q.src, .int .i64 q.dst, .int .i64 q.sport, .int .i64 q.dport, .int .u32 q.seq, .int .u32 q.ack, .int .i64 q.flags, .int .i64 q.window, .int .i64 q.probe, .int .i64 q.origin, .slice A3 N3 C3] 25) = w3 := HW3.out.symm
      rw [hw4, ← HG3.out]
      clear hw4
      go_wp2_with fail
      refine HPUT.out.mono ?_
      rintro e w5 ⟨A5, N5, C5, rfl, ho5, hb5⟩
      have hb05 : Below w.heap.size w w5 := hb03.trans (hb5.mono hb03.size)
      have heq := equal_any A A5 n c N5 C5 w5.heap.size l l w5 ((h.below hb05 (Nat.le_refl _)).more hb05.size) ho5.rd
      rw [decide_eq_true rfl] at heq
      have HEQ := Lib.hid heq
      clear heq d0 d1 d2 d3 d4 d5 d6 d7 d8 d9 d10
      go_wp2_with fail
      refine HEQ.out.mono ?_
      rintro e w' ⟨rfl, rfl⟩
      go_wp2_with fail
      refine (awake_any _).mono ?_
      rintro e w6 ⟨rfl, hb6⟩
      go_wp2
      go_ret
      exact ⟨rfl, hb05.trans (hb6.mono hb05.size)⟩
    · have hpk : pkOf l = Pk.none := by unfold pkOf; rw [if_neg he]
      rw [hpk] at hget
      obtain ⟨ec, hec⟩ : ∃ ec, ec = errOf l := ⟨_, rfl⟩
      rw [← hec] at hget he
      have de : (ec != 0) = true := by simpa using he
      have HGET := Lib.hid hget
      clear hget hpk he hec
      go_enter Try.func6, Try.ntmps6
      go_wp2_with fail
      refine HGET.out.mono ?_
      rintro e w2 ⟨A3, N3, C3, rfl, ho3, hb2⟩
      have hN3 : N3 = 0 := by have := ho3.len; rw [bv_len] at this; exact this.symm
      subst hN3
      have hb23 : Below w2.heap.size w2 (w2.alloc (pkO Pk.none A3 0 C3)) := (Below.refl _ _).alloc (Nat.le_refl _) _
      have hsm := fun w => same_any Pk.none Pk.none A3 none 0 C3 0 0 0 0 w (Rd.nil _ _ _) (Rd.nil _ _ _) (Nat.zero_le _) (Nat.zero_le _)
      rw [decide_eq_true rfl] at hsm
      have HSM := Lib.hid hsm
      have HB23 := Lib.hid hb23
      clear hsm hb23
      unfold pkV Pk.none
      go_wp2_with fail
      refine (HSM.out _).mono ?_
      rintro e w5 ⟨rfl, hb5⟩
      have hb25 : Below w2.heap.size w2 w5 := HB23.out.trans (hb5.mono HB23.out.size)
      go_wp2_with fail
      refine (awake_any _).mono ?_
      rintro e w6 ⟨rfl, hb6⟩
      go_wp2
      go_ret
      exact ⟨rfl, hb2.trans ((hb25.mono hb2.size).trans (hb6.mono (Nat.le_trans hb2.size hb25.size)))⟩
end Go.Proofs.Ytcdfkcbjididgaa.packetFormDone
namespace Go.Proofs.Ytcdfkcbjididgaa.packetFormDone
open Go.ChangeShapes Go.WideShapes Go.ChangeAt Go.RowKit Mem SM lib sum PM pk
set_option linter.unusedVariables false
theorem own : ownKnob Try.prog.godebug = none := by kernel_rfl
theorem laidOut : laidOutB Try.prog = true := by kernel_rfl
set_option maxRecDepth 100000 in
theorem lifted (os : Os) (started : os.Started) (H : Type) (enc : TypeId × Value → H) :
    ReturnsInHanded {} Try.checked os 6 .any (Rows.packetFormSpec.pre6 enc Try.prog Try.f6 Rows.packetFormRow.domain false) (Rows.packetFormSpec.post enc Try.prog Try.f6 false true false false) := by
  refine returnsInHanded_of_change (C := Try.checked) own started (by kernel_rfl) Try.func6
    (ChangeSpec.witness6 (enc := enc) (C := Try.checked) false ⟨#[], #[.slice none 0 0], []⟩ 8 (by kernel_rfl) (by kernel_rfl) (by kernel_rfl) (by kernel_rfl)) ?_
  intro W base args ds gs before hval0 hW hcnd _
  have hval : ∀ (j : Nat) t v, Try.f6.params[j]? = some t → args[j]? = some v → Value.okWide Try.prog W .any base t v := hval0
  have hW' := hW
  obtain ⟨p, q, hA0, hV, rfl, hfz, hnd⟩ := hW
  have hA : DataW.TrodAll enc Try.prog W 0 (fun _ => true) true Try.f6.params.toList args.toList ds p := hA0
  rw [Try.params6] at hA hval
  obtain ⟨v0, vs0, d0, ds0, p0, q0, hargs, rfl, rfl, h0, r0⟩ := trodAll_cons hA
  obtain ⟨rfl, rfl, rfl⟩ := trodAll_nil r0
  obtain rfl : args = #[v0] := by cases args; simp_all
  obtain ⟨rfl, rfl⟩ := trodVars_none hV
  obtain ⟨a0, n0, c0, rfl⟩ := okWide_slice Try.underlying23 (hval 0 23 v0 rfl rfl)
  have k0 := h0
  have lt0 : ∀ x ∈ p0, x.block < W.heap.size := by obtain ⟨m, hm⟩ := k0; exact DataW.trod_lt m _ _ _ hm
  obtain ⟨l0, w0, m0, b0⟩ : ∃ l : List UInt8, Rd W W.heap.size a0 n0 (bv l) ∧ n0 ≤ c0 ∧ n0 ≤ 9223372036854775807 := by
    obtain ⟨fuel, hf⟩ := h0
    rcases open_ints Try.underlying23 Try.underlying5 (by kernel_rfl) hf with ⟨hcs, _⟩ | ⟨x, l, c, zs, hcs, _, hl, hm, hz, _, hcell, hwz⟩
    · simp [Value.cells] at hcs
      obtain ⟨rfl, rfl, rfl⟩ := hcs
      exact ⟨[], Rd.nil _ _ _, Nat.le_refl _, by omega⟩
    · simp [Value.cells] at hcs
      obtain ⟨rfl, rfl, rfl⟩ := hcs
      unfold maxLen at hm
      obtain ⟨l, hl2⟩ := rd_bytes hl (by simpa using hz) hcell hwz
      exact ⟨l, hl2, hl, by omega⟩
  clear hA0 hval0
  refine (walk a0 n0 c0 l0 W w0 m0 b0).mono fun e W' ⟨he, bel⟩ => ?_
  subst he
  exact ⟨_, rfl, _, _, _, [], _, [], hW', trodAll_mk1 (shut_bool Try.underlying4 _), (trodAll_cons_mk (Below.trod laidOut (by kernel_rfl) (of_decide_eq_true (by kernel_rfl)) k0 bel lt0) trodAll_mk0), rfl, bel.frame _, fun h => by cases h⟩

theorem over : Rows.packetFormRow.holds Try.pinned (OpenSpec.ofChange Rows.packetFormSpec) :=
  OpenClaim.holds_of_wide 6 Try.f6 rfl rfl rfl rfl rfl rfl rfl ⟨rfl, rfl, rfl, rfl, rfl⟩ rfl rfl rfl rfl rfl (by kernel_rfl) Try.func6 (by kernel_rfl)
    (of_decide_eq_true (by kernel_rfl)) (by unfold Func.isWrapper; first | (rw [if_pos (by decide +kernel)]; kernel_rfl) | (rw [if_neg (by decide +kernel)]; exact ⟨rfl, rfl⟩))
    (fun os started H enc _ => lifted os started H enc)
/-- the given statement -/
theorem proved : Rows.PacketFormSaid := over
#print axioms proved
end Go.Proofs.Ytcdfkcbjididgaa.packetFormDone
