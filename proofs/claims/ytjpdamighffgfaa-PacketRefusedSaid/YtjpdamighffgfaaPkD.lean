/- The document's Same. -/
import Derived.Test.YtjpdamighffgfaaPkC
namespace Go.Proofs.Ytjpdamighffgfaa.pk
open Go.RowKit Mem SM lib sum PM
set_option linter.unusedVariables false
set_option maxRecDepth 20000 in
set_option maxHeartbeats 8000000 in
theorem same_any (p q : Pk) (A1 A2 : Option Addr) (n c m d B1 B2 : Nat) (w : World) (h1 : Rd w B1 A1 n (bv p.data)) (h2 : Rd w B2 A2 m (bv q.data)) (hB1 : B1 ≤ w.heap.size) (hB2 : B2 ≤ w.heap.size) :
    Calls Try.prog 20 #[pkV p A1 n c, pkV q A2 m d] w fun e w' => e = .returned (.bool (decide (p = q))) ∧ Below w.heap.size w w' := by
  unfold pkV
  have hb : Below w.heap.size w ((w.alloc (.cells #[.int .i64 p.src, .int .i64 p.dst, .int .i64 p.sport, .int .i64 p.dport, .int .u32 p.seq, .int .u32 p.ack, .int .i64 p.flags, .int .i64 p.window, .int .i64 p.probe, .int .i64 p.origin, .slice A1 n c] 25)).alloc (.cells #[.int .i64 q.src, .int .i64 q.dst, .int .i64 q.sport, .int .i64 q.dport, .int .u32 q.seq, .int .u32 q.ack, .int .i64 q.flags, .int .i64 q.window, .int .i64 q.probe, .int .i64 q.origin, .slice A2 m d] 25)) := ((Below.refl _ _).alloc (Nat.le_refl _) _).alloc (by simp) _
  have r1 := run_string Try.underlying23 Try.underlying5 Try.underlying9 (h1.below hb hB1) c
  have r2 := run_string Try.underlying23 Try.underlying5 Try.underlying9 (h2.below hb hB2) d
  have Hb := Lib.hid hb
  clear hb
  by_cases e0 : p.src = q.src
  case neg =>
    have d0 : (p.src == q.src) = false := by rw [beq_eq_false_iff_ne]; exact e0
    have E0 := Lib.hid e0
    clear e0
    go_enter Try.func20, Try.ntmps20
    go_wp2_with fail
    go_ret
    exact ⟨ret_bool (by rw [decide_eq_false (fun h => E0.out (by rw [h]))]), Hb.out⟩
  have d0 : (p.src == q.src) = true := by rw [beq_iff_eq]; exact e0
  have E0 := Lib.hid e0
  clear e0
  by_cases e1 : p.dst = q.dst
  case neg =>
    have d1 : (p.dst == q.dst) = false := by rw [beq_eq_false_iff_ne]; exact e1
    have E1 := Lib.hid e1
    clear e1
    go_enter Try.func20, Try.ntmps20
    go_wp2_with fail
    go_ret
    exact ⟨ret_bool (by rw [decide_eq_false (fun h => E1.out (by rw [h]))]), Hb.out⟩
  have d1 : (p.dst == q.dst) = true := by rw [beq_iff_eq]; exact e1
  have E1 := Lib.hid e1
  clear e1
  by_cases e2 : p.sport = q.sport
  case neg =>
    have d2 : (p.sport == q.sport) = false := by rw [beq_eq_false_iff_ne]; exact e2
    have E2 := Lib.hid e2
    clear e2
    go_enter Try.func20, Try.ntmps20
    go_wp2_with fail
    go_ret
    exact ⟨ret_bool (by rw [decide_eq_false (fun h => E2.out (by rw [h]))]), Hb.out⟩
  have d2 : (p.sport == q.sport) = true := by rw [beq_iff_eq]; exact e2
  have E2 := Lib.hid e2
  clear e2
  by_cases e3 : p.dport = q.dport
  case neg =>
    have d3 : (p.dport == q.dport) = false := by rw [beq_eq_false_iff_ne]; exact e3
    have E3 := Lib.hid e3
    clear e3
    go_enter Try.func20, Try.ntmps20
    go_wp2_with fail
    go_ret
    exact ⟨ret_bool (by rw [decide_eq_false (fun h => E3.out (by rw [h]))]), Hb.out⟩
  have d3 : (p.dport == q.dport) = true := by rw [beq_iff_eq]; exact e3
  have E3 := Lib.hid e3
  clear e3
  by_cases e4 : p.seq = q.seq
  case neg =>
    have d4 : (p.seq == q.seq) = false := by rw [beq_eq_false_iff_ne]; exact e4
    have E4 := Lib.hid e4
    clear e4
    go_enter Try.func20, Try.ntmps20
    go_wp2_with fail
    go_ret
    exact ⟨ret_bool (by rw [decide_eq_false (fun h => E4.out (by rw [h]))]), Hb.out⟩
  have d4 : (p.seq == q.seq) = true := by rw [beq_iff_eq]; exact e4
  have E4 := Lib.hid e4
  clear e4
  by_cases e5 : p.ack = q.ack
  case neg =>
    have d5 : (p.ack == q.ack) = false := by rw [beq_eq_false_iff_ne]; exact e5
    have E5 := Lib.hid e5
    clear e5
    go_enter Try.func20, Try.ntmps20
    go_wp2_with fail
    go_ret
    exact ⟨ret_bool (by rw [decide_eq_false (fun h => E5.out (by rw [h]))]), Hb.out⟩
  have d5 : (p.ack == q.ack) = true := by rw [beq_iff_eq]; exact e5
  have E5 := Lib.hid e5
  clear e5
  by_cases e6 : p.flags = q.flags
  case neg =>
    have d6 : (p.flags == q.flags) = false := by rw [beq_eq_false_iff_ne]; exact e6
    have E6 := Lib.hid e6
    clear e6
    go_enter Try.func20, Try.ntmps20
    go_wp2_with fail
    go_ret
    exact ⟨ret_bool (by rw [decide_eq_false (fun h => E6.out (by rw [h]))]), Hb.out⟩
  have d6 : (p.flags == q.flags) = true := by rw [beq_iff_eq]; exact e6
  have E6 := Lib.hid e6
  clear e6
  by_cases e7 : p.window = q.window
  case neg =>
    have d7 : (p.window == q.window) = false := by rw [beq_eq_false_iff_ne]; exact e7
    have E7 := Lib.hid e7
    clear e7
    go_enter Try.func20, Try.ntmps20
    go_wp2_with fail
    go_ret
    exact ⟨ret_bool (by rw [decide_eq_false (fun h => E7.out (by rw [h]))]), Hb.out⟩
  have d7 : (p.window == q.window) = true := by rw [beq_iff_eq]; exact e7
  have E7 := Lib.hid e7
  clear e7
  by_cases e8 : p.probe = q.probe
  case neg =>
    have d8 : (p.probe == q.probe) = false := by rw [beq_eq_false_iff_ne]; exact e8
    have E8 := Lib.hid e8
    clear e8
    go_enter Try.func20, Try.ntmps20
    go_wp2_with fail
    go_ret
    exact ⟨ret_bool (by rw [decide_eq_false (fun h => E8.out (by rw [h]))]), Hb.out⟩
  have d8 : (p.probe == q.probe) = true := by rw [beq_iff_eq]; exact e8
  have E8 := Lib.hid e8
  clear e8
  by_cases e9 : p.origin = q.origin
  case neg =>
    have d9 : (p.origin == q.origin) = false := by rw [beq_eq_false_iff_ne]; exact e9
    have E9 := Lib.hid e9
    clear e9
    go_enter Try.func20, Try.ntmps20
    go_wp2_with fail
    go_ret
    exact ⟨ret_bool (by rw [decide_eq_false (fun h => E9.out (by rw [h]))]), Hb.out⟩
  have d9 : (p.origin == q.origin) = true := by rw [beq_iff_eq]; exact e9
  have E9 := Lib.hid e9
  clear e9
  by_cases ed : p.data = q.data
  · have ds : ((bs p.data).toList == (bs q.data).toList) = true := by rw [bs_toList, bs_toList, beq_iff_eq]; exact ed
    have ED := Lib.hid ed
    clear ed
    go_enter Try.func20, Try.ntmps20
    go_wp2_with fail
    go_ret
    refine ⟨ret_bool ?_, Hb.out⟩
    symm
    apply decide_eq_true
    cases p
    cases q
    simp only [Pk.mk.injEq]
    exact ⟨E0.out, E1.out, E2.out, E3.out, E4.out, E5.out, E6.out, E7.out, E8.out, E9.out, ED.out⟩
  · have ds : ((bs p.data).toList == (bs q.data).toList) = false := by rw [bs_toList, bs_toList, beq_eq_false_iff_ne]; exact ed
    have ED := Lib.hid ed
    clear ed
    go_enter Try.func20, Try.ntmps20
    go_wp2_with fail
    go_ret
    exact ⟨ret_bool (by rw [decide_eq_false (fun h => ED.out (by rw [h]))]), Hb.out⟩
end Go.Proofs.Ytjpdamighffgfaa.pk
