/- Contract of packet.Probed. -/
import Derived.Test.YtcdfkcbjididgaaPkO
namespace Go.Proofs.Ytcdfkcbjididgaa.pk
open Go.RowKit Mem SM lib sum PM
set_option linter.unusedVariables false
def qP (p : Pk) (v : Int) : Pk := { p with probe := v }
def probedE (l : List UInt8) (v : Int) : Int := if errOf l = 0 then chk (qP (parse1 l) v) else errOf l
def probedB (l : List UInt8) (v : Int) : List UInt8 := if errOf l = 0 then putR (qP (parse1 l) v) else []
def ProbedPost (l : List UInt8) (v : Int) (w : World) (e : Ending) (w' : World) : Prop := ∃ A N c, e = .returned (.tuple #[.slice A N c, .int .i64 (probedE l v)]) ∧ Ow w' w.heap.size 5 A N c (bv (probedB l v)) ∧ Below w.heap.size w w'
set_option maxRecDepth 20000 in
set_option maxHeartbeats 8000000 in
theorem probed_any (A : Option Addr) (n c B : Nat) (l : List UInt8) (v : Int) (w : World) (h : Rd w B A n (bv l)) (hB : B ≤ w.heap.size) (hc : n ≤ c) (hn : n ≤ 1099511627776) :
    Calls Try.prog 29 #[.slice A n c, .int .i64 v] w (ProbedPost l v w) := by
  have hget := get_any A n c B l w h hB hc hn
  unfold GetPost at hget
  by_cases he : errOf l = 0
  · obtain ⟨hok, hput, hpk⟩ := err_zero l he
    obtain ⟨q, hq⟩ : ∃ q, q = parse1 l := ⟨_, rfl⟩
    have hu : u32P q := by rw [hq]; exact parse1_u32 l
    rw [he, hpk, ← hq] at hget
    have hE : probedE l v = chk (qP q v) ∧ probedB l v = putR (qP q v) := ⟨by unfold probedE; rw [if_pos he, hq], by unfold probedB; rw [if_pos he, hq]⟩
    have HE := Lib.hid hE
    have HGET := Lib.hid hget
    have hpp := fun A3 N3 C3 B3 w3 => put_any (qP q v) A3 N3 C3 B3 w3
    unfold PutPost at hpp
    obtain ⟨ec, hec⟩ : ∃ ec, ec = chk (qP q v) := ⟨_, rfl⟩
    rw [← hec] at hpp
    have HPP := Lib.hid hpp
    have HEC := Lib.hid hec
    clear hget hE hpp hec he hok hput hpk hq
    go_enter Try.func29, Try.ntmps29
    go_wp2_with fail
    refine HGET.out.mono ?_
    rintro e w2 ⟨A3, N3, C3, rfl, ho3, hb2⟩
    obtain ⟨w3, hw3⟩ : ∃ w3, w3 = w2.alloc (pkO (qP q v) A3 N3 C3) := ⟨_, rfl⟩
    obtain ⟨g3, hg3⟩ : ∃ g3, g3 = w2.heap.size := ⟨_, rfl⟩
    have hP3 : PkAt w3 g3 (qP q v) A3 N3 C3 := by rw [hw3, hg3]; exact PkAt.new _ _ _ _ _
    have hb23 : Below w2.heap.size w2 w3 := by rw [hw3]; exact (Below.refl _ _).alloc (Nat.le_refl _) _
    have hb03 : Below w.heap.size w w3 := hb2.trans (hb23.mono hb2.size)
    have d0 : w3.cell? ⟨g3, 0, none⟩ = some (.int .i64 q.src) := hP3.c0
    have d1 : w3.cell? ⟨g3, 1, none⟩ = some (.int .i64 q.dst) := hP3.c1
    have d2 : w3.cell? ⟨g3, 2, none⟩ = some (.int .i64 q.sport) := hP3.c2
    have d3 : w3.cell? ⟨g3, 3, none⟩ = some (.int .i64 q.dport) := hP3.c3
    have d4 : w3.cell? ⟨g3, 4, none⟩ = some (.int .u32 q.seq) := hP3.c4
    have d5 : w3.cell? ⟨g3, 5, none⟩ = some (.int .u32 q.ack) := hP3.c5
    have d6 : w3.cell? ⟨g3, 6, none⟩ = some (.int .i64 q.flags) := hP3.c6
    have d7 : w3.cell? ⟨g3, 7, none⟩ = some (.int .i64 q.window) := hP3.c7
    have d8 : w3.cell? ⟨g3, 8, none⟩ = some (.int .i64 v) := hP3.c8
    have d9 : w3.cell? ⟨g3, 9, none⟩ = some (.int .i64 q.origin) := hP3.c9
    have d10 := hP3.c10
    have hN3 : N3 ≤ 9223372036854775807 := by
      have h1 := ho3.cap
      unfold maxLen at h1
      omega
    have HPUT := Lib.hid (HPP.out A3 N3 C3 _ w3 (ho3.below hb23 (Nat.le_refl _)).rd (Nat.le_refl _) ho3.cap.1 hN3 hu)
    have HW3 := Lib.hid hw3
    have HG3 := Lib.hid hg3
    clear hw3 hg3 hP3
    unfold pkV
    go_upto_region 5 with fail
    have hw4 : w2.alloc (.cells #[.int .i64 q.src, .int .i64 q.dst, .int .i64 q.sport, .int .i64 q.dport, .int .u32 q.seq, .int .u32 q.ack, .int .i64 q.flags, .int .i64 q.window, .int .i64 v, .int .i64 q.origin, .slice A3 N3 C3] 25) = w3 := HW3.out.symm
    rw [hw4, ← HG3.out]
    clear hw4
    go_wp2_with fail
    refine HPUT.out.mono ?_
    rintro e w5 ⟨A5, N5, C5, rfl, ho5, hb5⟩
    go_wp2_with fail
    go_ret2
    refine ⟨_, _, _, by rw [HE.out.1, ← HEC.out]; rfl, ?_, hb03.trans (hb5.mono hb03.size)⟩
    rw [HE.out.2]
    exact ho5.base hb03.size
  · have hpk : pkOf l = Pk.none := by unfold pkOf; rw [if_neg he]
    have hE : probedE l v = errOf l ∧ probedB l v = [] := ⟨by unfold probedE; rw [if_neg he], by unfold probedB; rw [if_neg he]⟩
    have HE := Lib.hid hE
    obtain ⟨ec, hec⟩ : ∃ ec, ec = errOf l := ⟨_, rfl⟩
    rw [hpk, ← hec] at hget
    rw [← hec] at he
    have de : (ec != 0) = true := by simpa using he
    have HGET := Lib.hid hget
    have HEC := Lib.hid hec
    clear hget hpk he hec hE
    go_enter Try.func29, Try.ntmps29
    go_wp2_with fail
    refine HGET.out.mono ?_
    rintro e w2 ⟨A3, N3, C3, rfl, ho3, hb2⟩
    unfold pkV Pk.none
    go_wp2_with fail
    go_ret2
    refine ⟨none, 0, 0, by rw [HE.out.1, ← HEC.out]; rfl, ?_, hb2.alloc hb2.size _⟩
    rw [HE.out.2]
    exact Ow.nil _ _ _
end Go.Proofs.Ytcdfkcbjididgaa.pk
