/- PacketTurned: for every input the law answers true and leaves its arguments as they were. -/
import Derived.Test.YtcdfkcbjididgaaRows
import Derived.Test.YtcdfkcbjididgaaPkO
import Derived.ProofKit
import Derived.OpenShut
import Derived.ShutString
import Derived.ChangeOld
namespace Go.Proofs.Ytcdfkcbjididgaa.packetTurnedDone
open Go.RowKit Mem SM lib sum PM pk
set_option linter.unusedVariables false
theorem xor_other (b : UInt8) (n : Nat) (h0 : 0 < n) (h : n < 256) : b ≠ b ^^^ UInt8.ofNat n := by
  intro e
  have h1 : b ^^^ b = b ^^^ (b ^^^ UInt8.ofNat n) := congrArg (b ^^^ ·) e
  rw [← UInt8.xor_assoc, UInt8.xor_self, UInt8.zero_xor] at h1
  have h2 := congrArg UInt8.toNat h1
  rw [UInt8.toNat_ofNat'] at h2
  have : (0 : UInt8).toNat = 0 := rfl
  omega
theorem u8_xor (b : UInt8) (n : Nat) (h : n < 256) : bits BinOp.xor IntKind.u8 (b.toNat : Int) ((n : Nat) : Int) = ((b ^^^ UInt8.ofNat n).toNat : Int) := by
  have hb := b.toNat_lt
  rw [UInt8.toNat_xor, UInt8.toNat_ofNat', show n % 2 ^ 8 = n from by omega]
  exact u8_xor_nat _ _ (by omega) h
set_option maxRecDepth 20000 in
set_option maxHeartbeats 16000000 in
theorem walk (p : Pk) (A : Option Addr) (n c : Nat) (k x : Int) (w : World) (h : Rd w w.heap.size A n (bv p.data)) (hc : n ≤ c) (hn : n ≤ 9223372036854775807) (hu : u32P p) (_hk : (Lit.int .i64 k).wf = true) (_hx : (Lit.int .i64 x).wf = true) :
    Calls Try.prog 7 #[pkV p A n c, .int .i64 k, .int .i64 x] w fun e w' => e = .returned (.bool true) ∧ Below w.heap.size w w' := by
  have hlen : n = p.data.length := by rw [← bv_len, h.len]
  obtain ⟨W, hW⟩ : ∃ W, W = w.alloc (pkO p A n c) := ⟨_, rfl⟩
  obtain ⟨g, hg⟩ : ∃ g, g = w.heap.size := ⟨_, rfl⟩
  have hP : PkAt W g p A n c := by rw [hW, hg]; exact PkAt.new _ _ _ _ _
  have hb0 : Below w.heap.size w W := by rw [hW]; exact (Below.refl _ _).alloc (Nat.le_refl _) _
  have hr0 := h.below hb0 (Nat.le_refl _)
  have HW := Lib.hid hW
  have HG := Lib.hid hg
  have HL := Lib.hid hlen
  obtain ⟨c0, c1, c2, c3, c4, c5, c6, c7, c8, c9, c10⟩ := hP
  have hput := put_any p A n c _ W hr0 hb0.size hc hn hu
  unfold PutPost at hput
  clear hW hg hlen _hk _hx
  unfold pkV
  by_cases hbig : 16384 < n
  · clear hput
    go_enter Try.func7, Try.ntmps7
    go_upto_region 1 with fail
    have hW2 : w.alloc (.cells #[.int .i64 p.src, .int .i64 p.dst, .int .i64 p.sport, .int .i64 p.dport, .int .u32 p.seq, .int .u32 p.ack, .int .i64 p.flags, .int .i64 p.window, .int .i64 p.probe, .int .i64 p.origin, .slice A n c] 25) = W := HW.out.symm
    rw [hW2, ← HG.out]
    clear hW2
    go_wp2_with fail
    refine (awake_any _).mono ?_
    rintro e w1 ⟨rfl, hb1⟩
    go_wp2
    go_ret
    exact ⟨rfl, hb0.trans (hb1.mono hb0.size)⟩
  · by_cases hok : okP p
    · rw [chk_ok hok, show putR p = putB p from if_pos hok] at hput
      have HPUT := Lib.hid hput
      clear hput hok
      obtain ⟨a, ha⟩ : ∃ a : Nat, IntKind.u64.wrap k = (a : Int) := ⟨(IntKind.u64.wrap k).toNat, by rw [Int.toNat_of_nonneg (wrap_u64_nonneg k)]⟩
      obtain ⟨xa, hxa⟩ : ∃ a : Nat, IntKind.u64.wrap x = (a : Int) := ⟨(IntKind.u64.wrap x).toNat, by rw [Int.toNat_of_nonneg (wrap_u64_nonneg x)]⟩
      obtain ⟨r, hr⟩ : ∃ r, r = xa % 255 := ⟨_, rfl⟩
      have hr2 : r < 255 := by omega
      have hr3 : (xa : Int) % 255 = (r : Int) := by omega
      obtain ⟨s, hs⟩ : ∃ s, s = a % 22 := ⟨_, rfl⟩
      have hs2 : s < 22 := by omega
      have hs3 : (a : Int) % 22 = (s : Int) := by omega
      clear hr hs
      go_enter Try.func7, Try.ntmps7
      go_upto_region 1 with fail
      have hW2 : w.alloc (.cells #[.int .i64 p.src, .int .i64 p.dst, .int .i64 p.sport, .int .i64 p.dport, .int .u32 p.seq, .int .u32 p.ack, .int .i64 p.flags, .int .i64 p.window, .int .i64 p.probe, .int .i64 p.origin, .slice A n c] 25) = W := HW.out.symm
      rw [hW2, ← HG.out]
      clear hW2
      go_wp2_with fail
      refine HPUT.out.mono ?_
      rintro e w1 ⟨A1, N1, C1, rfl, ho1, hb1⟩
      obtain ⟨X, hX⟩ : ∃ X, X = putB p := ⟨_, rfl⟩
      have hXv : valid X := by rw [hX]; exact put_valid p
      rw [← hX] at ho1
      have hXl : X.length = N1 := by rw [← bv_len, ho1.len]
      have hN1 : 22 ≤ N1 ∧ N1 ≤ 40000 := by
        have h1 := putB_len p
        have h2 := optB_len p
        have h3 := HL.out
        rw [← hX] at h1
        omega
      obtain ⟨gb, hA1, hgb1, hgb2⟩ := ho1.at0 (by omega)
      subst hA1
      have hc1 := ho1.cap
      unfold maxLen at hc1
      obtain ⟨i, hi⟩ : ∃ i, i = a % N1 := ⟨_, rfl⟩
      have hi2 : i < N1 := by rw [hi]; exact Nat.mod_lt _ (by omega)
      have hi3 : (a : Int) % (N1 : Int) = (i : Int) := by rw [hi]; simp
      have hb01 : Below w.heap.size w w1 := hb0.trans (hb1.mono hb0.size)
      have hcut : Rd w1 w1.heap.size (some ⟨gb, 0, none⟩) s (bv (cutB X 0 s)) := rd_cut ho1.rd 0 s (by omega)
      have hsh := short (cutB X 0 s) (by simp [cutB]; omega)
      have hget := get_any (some ⟨gb, 0, none⟩) s C1 _ (cutB X 0 s) w1 hcut (Nat.le_refl _) (by omega) (by omega)
      unfold GetPost at hget
      rw [hsh.1, hsh.2] at hget
      have HGET := Lib.hid hget
      have g1 : (s : Int) ≤ (C1 : Int) := by omega
      have g2 : s ≤ C1 := by omega
      have g3 : (s : Int) ≤ (N1 : Int) := by omega
      have HX := Lib.hid hX
      have HXL := Lib.hid hXl
      have HXV := Lib.hid hXv
      clear hget hsh hcut hX hXl hXv hi c0 c1 c2 c3 c4 c5 c6 c7 c8 c9 c10
      go_wp2_with fail
      refine HGET.out.mono ?_
      rintro e w2 ⟨A3, N3, C3, rfl, ho3, hb2⟩
      have hN3 : N3 = 0 := by have := ho3.len; rw [bv_len] at this; exact this.symm
      subst hN3
      obtain ⟨w3, hw3⟩ : ∃ w3, w3 = w2.alloc (.cells #[.int .i64 0, .int .i64 0, .int .i64 0, .int .i64 0, .int .u32 0, .int .u32 0, .int .i64 0, .int .i64 0, .int .i64 0, .int .i64 0, .slice A3 0 C3] 25) := ⟨_, rfl⟩
      have hb23 : Below w2.heap.size w2 w3 := by rw [hw3]; exact (Below.refl _ _).alloc (Nat.le_refl _) _
      have hb13 : Below w1.heap.size w1 w3 := hb2.trans (hb23.mono hb2.size)
      have ho1c := ho1.below hb13 (Nat.le_refl _)
      have hset := ho1c.set i (.int .u8 0) hi2
      have c1 := hset.2.2.1
      have z1 := hset.2.2.2
      obtain ⟨b, hbe⟩ : ∃ b, X[i]? = some b := ⟨_, List.getElem?_eq_getElem (by have := HXL.out; omega)⟩
      rw [show (bv X)[i]? = some (.int .u8 (b.toNat : Int)) from by simp [bv, hbe]] at c1
      obtain ⟨u, hu2⟩ : ∃ u, u = b ^^^ UInt8.ofNat (1 + r) := ⟨_, rfl⟩
      have hub : b ≠ u := by rw [hu2]; exact xor_other b (1 + r) (by omega) (by omega)
      have fx : bits BinOp.xor IntKind.u8 (b.toNat : Int) (1 + (r : Int)) = (u.toNat : Int) := by
        rw [hu2]
        have := u8_xor b (1 + r) (by omega)
        rw [← this]
        congr 1
      have f1 : (i : Int) < (N1 : Int) := by omega
      have f2 : i ≤ 65540 := by omega
      have HU := Lib.hid hu2
      have HBE := Lib.hid hbe
      have HUB := Lib.hid hub
      have HW3 := Lib.hid hw3
      clear hset hu2 hbe hub hw3
      unfold pkV Pk.none
      go_upto_region 9 with fail
      rw [← HW3.out]
      go_wp2_with fail
      have s2 := (ho1c.set i (.int .u8 (u.toNat : Int)) hi2).1
      rw [← bv_set] at s2
      obtain ⟨Y, hY⟩ : ∃ Y, Y = X.set i u := ⟨_, rfl⟩
      have hYe : errOf Y ≠ 0 := by
        rw [hY]
        obtain ⟨hlt, hbb⟩ := List.getElem?_eq_some_iff.1 HBE.out
        exact turned X HXV.out i u hlt (by rw [hbb]; exact fun e => HUB.out e.symm)
      have hYp : pkOf Y = Pk.none := by unfold pkOf; rw [if_neg hYe]
      rw [← hY] at s2
      have hb05 : Below w.heap.size w (w3.setCell ⟨gb, i, none⟩ (.int .u8 (u.toNat : Int))) := (hb01.trans (hb13.mono hb01.size)).setCell (p := ⟨gb, i, none⟩) (Nat.le_trans hb0.size hgb1) _
      have hget := get_any (some ⟨gb, 0, none⟩) N1 C1 _ Y _ s2.rd (Nat.le_refl _) hc1.1 (by omega)
      unfold GetPost at hget
      obtain ⟨ec, hec⟩ : ∃ ec, ec = errOf Y := ⟨_, rfl⟩
      rw [hYp, ← hec] at hget
      rw [← hec] at hYe
      have de : (ec != 0) = true := by simpa using hYe
      have HGET2 := Lib.hid hget
      clear hget hYe hYp hY hec c1 z1 fx
      refine HGET2.out.mono ?_
      rintro e w6 ⟨A3', N3', C3', rfl, ho6, hb6⟩
      have hN3' : N3' = 0 := by have := ho6.len; rw [bv_len] at this; exact this.symm
      subst hN3'
      have hb06 := hb05.trans (hb6.mono hb05.size)
      have hbn : Below w6.heap.size w6 (w6.alloc (pkO Pk.none A3' 0 C3')) := (Below.refl _ _).alloc (Nat.le_refl _) _
      have hsm := fun w => same_any Pk.none Pk.none A3' none 0 C3' 0 0 0 0 w (Rd.nil _ _ _) (Rd.nil _ _ _) (Nat.zero_le _) (Nat.zero_le _)
      rw [decide_eq_true rfl] at hsm
      have HSM := Lib.hid hsm
      have HBN := Lib.hid hbn
      clear hsm hbn
      unfold pkV Pk.none
      go_wp2_with fail
      refine (HSM.out _).mono ?_
      rintro e w8 ⟨rfl, hb8⟩
      have hb68 : Below w6.heap.size w6 w8 := HBN.out.trans (hb8.mono HBN.out.size)
      have hb08 := hb06.trans (hb68.mono hb06.size)
      go_wp2_with fail
      refine (awake_any _).mono ?_
      rintro e w9 ⟨rfl, hb9⟩
      go_wp2
      go_ret
      exact ⟨rfl, hb08.trans (hb9.mono hb08.size)⟩
    · rw [chk_no hok] at hput
      have HPUT := Lib.hid hput
      clear hput hok
      go_enter Try.func7, Try.ntmps7
      go_upto_region 1 with fail
      have hW2 : w.alloc (.cells #[.int .i64 p.src, .int .i64 p.dst, .int .i64 p.sport, .int .i64 p.dport, .int .u32 p.seq, .int .u32 p.ack, .int .i64 p.flags, .int .i64 p.window, .int .i64 p.probe, .int .i64 p.origin, .slice A n c] 25) = W := HW.out.symm
      rw [hW2, ← HG.out]
      clear hW2
      go_wp2_with fail
      refine HPUT.out.mono ?_
      rintro e w1 ⟨A1, N1, C1, rfl, ho1, hb1⟩
      have hb01 : Below w.heap.size w w1 := hb0.trans (hb1.mono hb0.size)
      go_wp2_with fail
      refine (awake_any _).mono ?_
      rintro e w2 ⟨rfl, hb2⟩
      go_wp2
      go_ret
      exact ⟨rfl, hb01.trans (hb2.mono hb01.size)⟩
end Go.Proofs.Ytcdfkcbjididgaa.packetTurnedDone
namespace Go.Proofs.Ytcdfkcbjididgaa.packetTurnedDone
open Go.ChangeShapes Go.WideShapes Go.ChangeAt Go.RowKit Mem SM lib sum PM pk
set_option linter.unusedVariables false
theorem own : ownKnob Try.prog.godebug = none := by kernel_rfl
theorem laidOut : laidOutB Try.prog = true := by kernel_rfl
set_option maxRecDepth 100000 in
theorem lifted (os : Os) (started : os.Started) (H : Type) (enc : TypeId × Value → H) :
    ReturnsInHanded {} Try.checked os 7 .any (Rows.packetTurnedSpec.pre6 enc Try.prog Try.f7 Rows.packetTurnedRow.domain false) (Rows.packetTurnedSpec.post enc Try.prog Try.f7 false true false false) := by
  refine returnsInHanded_of_change (C := Try.checked) own started (by kernel_rfl) Try.func7
    (ChangeSpec.witness6 (enc := enc) (C := Try.checked) false ⟨#[], #[.agg #[.int .i64 0, .int .i64 0, .int .i64 0, .int .i64 0, .int .u32 0, .int .u32 0, .int .i64 0, .int .i64 0, .int .i64 0, .int .i64 0, .slice none 0 0], .int .i64 0, .int .i64 0], []⟩ 8 (by kernel_rfl) (by kernel_rfl) (by kernel_rfl) (by kernel_rfl)) ?_
  intro W base args ds gs before hval0 hW hcnd _
  have hval : ∀ (j : Nat) t v, Try.f7.params[j]? = some t → args[j]? = some v → Value.okWide Try.prog W .any base t v := hval0
  have hW' := hW
  obtain ⟨p, q, hA0, hV, rfl, hfz, hnd⟩ := hW
  have hA : DataW.TrodAll enc Try.prog W 0 (fun _ => true) true Try.f7.params.toList args.toList ds p := hA0
  rw [Try.params7] at hA hval
  obtain ⟨v0, vs0, d0, ds0, p0, q0, hargs, rfl, rfl, h0, r0⟩ := trodAll_cons hA
  obtain ⟨v1, vs1, d1, ds1, p1, q1, rfl, rfl, rfl, h1, r1⟩ := trodAll_cons r0
  obtain ⟨v2, vs2, d2, ds2, p2, q2, rfl, rfl, rfl, h2, r2⟩ := trodAll_cons r1
  obtain ⟨rfl, rfl, rfl⟩ := trodAll_nil r2
  obtain rfl : args = #[v0, v1, v2] := by cases args; simp_all
  obtain ⟨rfl, rfl⟩ := trodVars_none hV
  have k0 := h0
  have lt0 : ∀ x ∈ p0, x.block < W.heap.size := by obtain ⟨m, hm⟩ := k0; exact DataW.trod_lt m _ _ _ hm
  obtain ⟨P0, A0, n0, c0, rfl, w0, m0, b0, u0⟩ := open_pk (hval 0 25 v0 rfl rfl) h0
  obtain ⟨a1, rfl, rfl, rfl, w1⟩ := open_int Try.underlying3 (hval 1 3 v1 rfl rfl) h1
  obtain ⟨a2, rfl, rfl, rfl, w2⟩ := open_int Try.underlying3 (hval 2 3 v2 rfl rfl) h2
  clear hA0 hval0
  refine (walk P0 A0 n0 c0 a1 a2 W w0 m0 b0 u0 w1 w2).mono fun e W' ⟨he, bel⟩ => ?_
  subst he
  exact ⟨_, rfl, _, _, _, [], _, [], hW', trodAll_mk1 (shut_bool Try.underlying4 _), (trodAll_cons_mk (Below.trod laidOut (by kernel_rfl) (of_decide_eq_true (by kernel_rfl)) k0 bel lt0) (trodAll_cons_mk (shut_int Try.underlying3 w1) (trodAll_cons_mk (shut_int Try.underlying3 w2) trodAll_mk0))), rfl, bel.frame _, fun h => by cases h⟩

theorem over : Rows.packetTurnedRow.holds Try.pinned (OpenSpec.ofChange Rows.packetTurnedSpec) :=
  OpenClaim.holds_of_wide 7 Try.f7 rfl rfl rfl rfl rfl rfl rfl ⟨rfl, rfl, rfl, rfl, rfl⟩ rfl rfl rfl rfl rfl (by kernel_rfl) Try.func7 (by kernel_rfl)
    (of_decide_eq_true (by kernel_rfl)) (by unfold Func.isWrapper; first | (rw [if_pos (by decide +kernel)]; kernel_rfl) | (rw [if_neg (by decide +kernel)]; exact ⟨rfl, rfl⟩))
    (fun os started H enc _ => lifted os started H enc)
/-- the given statement -/
theorem proved : Rows.PacketTurnedSaid := over
#print axioms proved
end Go.Proofs.Ytcdfkcbjididgaa.packetTurnedDone
