/- The document's digest of bytes. -/
import Derived.Test.YtagomegeeijfnaaDoorDgU
import Derived.Test.YtagomegeeijfnaaDoorDgH
namespace Go.Proofs.YtagomegeeijfnaaDoor.dg
open Go.RowKit Mem DM
set_option linter.unusedVariables false
set_option linter.unusedSimpArgs false
/-- a number's k-th byte of eight, the highest first -/
def be8 (N k : Nat) : UInt8 := UInt8.ofNat (N / 2 ^ (8 * (7 - k)))
theorem be8_all (N : Nat) (h : N < 4294967296) : (List.range 8).map (be8 N) = bytes4 (UInt32.ofNat (N / 4294967296)) ++ bytes4 (UInt32.ofNat N) := by
  have h0 : N / 4294967296 = 0 := Nat.div_eq_of_lt h
  have h1 : (UInt32.ofNat N).toNat = N := by rw [UInt32.toNat_ofNat']; exact Nat.mod_eq_of_lt h
  have z : ∀ k, 32 ≤ k → N / 2 ^ k = 0 := fun k hk => Nat.div_eq_of_lt (Nat.lt_of_lt_of_le h (by have := Nat.pow_le_pow_right (show 0 < 2 by omega) hk; simpa using this))
  rw [h0]
  unfold bytes4
  rw [h1]
  show [be8 N 0, be8 N 1, be8 N 2, be8 N 3, be8 N 4, be8 N 5, be8 N 6, be8 N 7] = _
  unfold be8
  simp only [z 56 (by omega), z 48 (by omega), z 40 (by omega), z 32 (by omega), show 8 * (7 - 0) = 56 from rfl, show 8 * (7 - 1) = 48 from rfl, show 8 * (7 - 2) = 40 from rfl, show 8 * (7 - 3) = 32 from rfl, show 8 * (7 - 4) = 24 from rfl, show 8 * (7 - 5) = 16 from rfl, show 8 * (7 - 6) = 8 from rfl, show 8 * (7 - 7) = 0 from rfl, show (2 : Nat) ^ 24 = 16777216 from rfl, show (2 : Nat) ^ 16 = 65536 from rfl, show (2 : Nat) ^ 8 = 256 from rfl, show (2 : Nat) ^ 0 = 1 from rfl, Nat.div_one]
  rfl
theorem be8_step (N k : Nat) (h : k < 8) : ((List.range 8).map (be8 N)).take (k + 1) = ((List.range 8).map (be8 N)).take k ++ [be8 N k] := by
  rw [List.take_succ_eq_append_getElem (by simpa using h)]
  simp
def mid (l : List UInt8) (z : Nat) : List UInt8 := l ++ 128 :: List.replicate z 0
theorem mid_len (l : List UInt8) (z : Nat) : (mid l z).length = l.length + 1 + z := by simp [mid]; omega
theorem mid_step (l : List UInt8) (z : Nat) : mid l (z + 1) = mid l z ++ [0] := by
  unfold mid
  rw [List.replicate_succ', List.append_assoc]
  rfl
theorem padded_mid (l : List UInt8) (h : 8 * l.length < 4294967296) : padded l = mid l ((119 - l.length % 64) % 64) ++ (List.range 8).map (be8 (8 * l.length)) := by
  rw [be8_all _ h]
  unfold padded ending mid
  simp
def slen : Value → Nat
  | .slice _ N _ => N
  | _ => 0
theorem range_setD {w : World} {b : Nat} {cs : List Value} (h : w.rangeAt b 0 cs) (i : Nat) (v : Value) : (w.setCell ⟨b, i, none⟩ v).rangeAt b 0 (cs.set i v) := fun j u hu => by
  rw [Nat.zero_add]
  by_cases e : i = j
  · subst e
    have hi : i < cs.length := by
      have := (List.getElem?_eq_some_iff.1 hu).1
      simpa using this
    rw [List.getElem?_set_self hi] at hu
    injection hu with hu
    subst hu
    have := h i cs[i] (List.getElem?_eq_getElem hi)
    rw [Nat.zero_add] at this
    exact World.cell?_setCell_same _ _ _ this
  · rw [List.getElem?_set_ne e] at hu
    have := h j u hu
    rw [Nat.zero_add] at this
    exact (World.cell?_setCell_other _ _ _ _ (fun e2 => by first | exact e (congrArg Addr.off e2).symm | exact e (congrArg Addr.off e2))).trans this
theorem there_setD {w : World} {b' o' n : Nat} (h : w.there b' o' n) (b i : Nat) (v : Value) : (w.setCell ⟨b, i, none⟩ v).there b' o' n := by
  have := World.there_setCells h b i [v]
  simpa [World.setCells] using this
theorem wp_buildD {P : Program} {ops : Array Oper} {rest : List Oper} {o : Oper} {a : Act} {w : World} {Q : Exit → Act → World → Prop} (hw : Region.wanted o (yielded ops a.tmps) = true) (t : TypeId) (parts : Array (Nat × Operand)) (ho : o.op = .build t parts) (v : Value)
    (hrun : (Instr.build t (parts.map fun (i, x) => (i, a.eval x))).run P w = .ok v w) (h : wpList P ops Q rest (a.put o.dst v) w) : wpList P ops Q (o :: rest) a w :=
  wpList_step fun K hK => by
    rw [if_pos hw]
    unfold Oper.wp execOp
    simp only [ho, Sem.run_bind, Result.andThen_ok, hrun]
    exact hK _ _ h
theorem build_z32 (w : World) : (Instr.build 26 #[]).run Tryd.prog w = .ok (.agg z32.toArray) w := by kernel_rfl
/-- the bytes of the first I words, and of the next one the first J -/
def inN (ws : List UInt32) (I J : Nat) : List UInt8 := (ws.take I).flatMap bytes4 ++ ((bytes4 (ws.getD I 0)).take J ++ List.replicate (32 - 4 * I - J) 0)
theorem inN_zero (ws : List UInt32) (I : Nat) : inN ws I 0 = outN ws I := by simp [inN, outN]
theorem inN_four (ws : List UInt32) (I : Nat) (h : ws.length = 8) (hI : I < 8) : inN ws I 4 = outN ws (I + 1) := by
  unfold inN outN
  have hIw : I < ws.length := by omega
  rw [← List.take_append_getElem hIw, List.flatMap_append, List.append_assoc]
  have e : ws.getD I 0 = ws[I] := by simp [hIw]
  rw [e, show (bytes4 ws[I]).take 4 = bytes4 ws[I] from rfl, show 32 - 4 * I - 4 = 32 - 4 * (I + 1) by omega]
  simp
theorem inN_step (ws : List UInt32) (I J : Nat) (h : ws.length = 8) (hI : I < 8) (hJ : J < 4) : (inN ws I J).set (4 * I + J) ((bytes4 (ws.getD I 0)).getD J 0) = inN ws I (J + 1) := by
  have hl : ((ws.take I).flatMap bytes4).length = 4 * I := by rw [flat_len, List.length_take]; omega
  have hb : (bytes4 (ws.getD I 0)).length = 4 := rfl
  have ht : ((bytes4 (ws.getD I 0)).take J).length = J := by rw [List.length_take, hb]; omega
  unfold inN
  obtain ⟨r, hr⟩ : ∃ r, 32 - 4 * I - J = r + 1 := ⟨32 - 4 * I - J - 1, by omega⟩
  rw [List.set_append_right _ _ (by omega), hl, show 4 * I + J - 4 * I = J by omega, List.set_append_right _ _ (by omega), ht, Nat.sub_self, hr, List.replicate_succ, List.set_cons_zero]
  rw [show 32 - 4 * I - (J + 1) = r by omega, List.take_succ_eq_append_getElem (by rw [hb]; exact hJ), List.append_assoc]
  have e : (bytes4 (ws.getD I 0)).getD J 0 = (bytes4 (ws.getD I 0))[J]'(by rw [hb]; exact hJ) := by rw [List.getD_eq_getElem?_getD, List.getElem?_eq_getElem (by rw [hb]; exact hJ)]; rfl
  rw [e]
  rfl
set_option maxRecDepth 100000 in
set_option maxHeartbeats 8000000 in
theorem refSum_any (A0 A1 A2 : Option Addr) (n c0 c1 c2 B : Nat) (l : List UInt8) (w : World) (hs : Rd w B A0 8 (wvs roots)) (hk : Rd w B A1 64 (wvs cubes)) (hb : Rd w B A2 n (bv l)) (hB : B ≤ w.heap.size) (hn : n ≤ 1048576) (hc0 : 8 ≤ c0) :
    Calls Tryd.prog 14 #[.slice A0 8 c0, .slice A1 64 c1, .slice A2 n c2] w fun e w' => e = .returned (.agg (bv (digest l)).toArray) ∧ Below w.heap.size w w' := by
  have hl : l.length = n := by rw [← hb.len, bv_len]
  have hz32 : z32.length = 32 := by simp [z32, bv_len]
  have hth := there_new w z32 26
  rw [hz32] at hth
  have hW0 : Below w.heap.size w (w.alloc (.cells z32.toArray 26)) := (Below.refl _ _).alloc (Nat.le_refl _) _
  have hWs : (w.alloc (.cells z32.toArray 26)).heap.size = w.heap.size + 1 := by simp
  obtain ⟨Z3, hZ3⟩ : ∃ z, z32.toArray = z := ⟨_, rfl⟩
  rw [hZ3] at hth hW0 hWs
  obtain ⟨W, hW⟩ : ∃ z, w.alloc (.cells Z3 26) = z := ⟨_, rfl⟩
  rw [hW] at hth hW0 hWs
  obtain ⟨g0, hg0⟩ : ∃ z, w.heap.size = z := ⟨_, rfl⟩
  rw [hg0] at hth hW0 hWs
  have H := Lib.hid (And.intro (hs.below hW0 (by rw [← hg0]; exact hB)) (And.intro (hk.below hW0 (by rw [← hg0]; exact hB)) (And.intro (hb.below hW0 (by rw [← hg0]; exact hB)) (And.intro hth hW0))))
  have HL := Lib.hid hl
  have HG := Lib.hid hg0
  clear hs hk hb hth hl
  have hB2 : B ≤ g0 := by rw [← hg0]; exact hB
  rw [hg0]
  go_enter Tryd.func14, Tryd.ntmps14
  go_upto_region 1 with fail
  show Code.wp _ _ _ _ (w.alloc (.cells z32.toArray 26))
  rw [hZ3, hW]
  have hW1 : Below (g0 + 1) W (W.alloc (.cells #[] 5)) := (Below.refl _ _).alloc (by rw [hWs]; exact Nat.le_refl _) _
  have hlit := Ow.lit0 W 5 (base := g0 + 1) (by rw [hWs]; exact Nat.le_refl _)
  have hWlt : g0 < W.heap.size := by rw [hWs]; exact Nat.lt_succ_self _
  have hWle : g0 + 1 ≤ W.heap.size := hWlt
  clear hWs
  go_upto_region 2 with (at_builtin; refine wp_app u8ty rfl (.tmp 14) (.tmp 15) rfl rfl rfl hlit (H.out.2.2.1.below hW1 (by omega)) (bv_one _) (by omega) (by omega) (by simp; omega) ?_; intro A3 N3 d3 w3 ho3 hN3 hb3 hg3)
  have hn3 : N3 = n := by have := ho3.len; rw [List.nil_append, bv_len] at this; rw [← this]; exact HL.out
  subst hn3
  rw [List.nil_append] at ho3
  have hb13 := hW1.trans hb3
  have hs13 : g0 + 1 ≤ w3.heap.size := Nat.le_trans hWle (Nat.le_trans hW1.size hb3.size)
  have hlit3 : Rd (w3.alloc (.cells #[.int .u8 128] 5)) (w3.heap.size + 1) (some ⟨w3.heap.size, 0, none⟩) 1 [.int .u8 128] := Rd.one _ _ _
  have HO3 := Lib.hid (And.intro ho3 hb13)
  have f8 : ((8 * N3 : Nat) : Int) = 8 * (N3 : Int) := by omega
  clear hW1 hlit ho3 hb3 hg3 hb13
  go_upto_region 4 with (at_builtin; refine wp_app u8ty rfl (.tmp 20) (.tmp 21) rfl rfl rfl (HO3.out.1.alloc _) hlit3 (by intro u hu; simp at hu; subst hu; rfl) (by omega) (by omega) (by simp; omega) ?_; intro A4 N4 d4 w4 ho4 hN4 hb4 hg4)
  have hn4 : N4 = N3 + 1 := by have := ho4.len; rw [List.length_append, bv_len, HL.out] at this; simpa using this.symm
  subst hn4
  have hm0 : mid l 0 = l ++ [128] := rfl
  rw [show bv l ++ [Value.int IntKind.u8 128] = bv (mid l 0) by rw [hm0, bv_app]; rfl] at ho4
  have hb14 : Below (g0 + 1) W w4 := HO3.out.2.trans (((Below.refl _ _).alloc (by omega) _ : Below (g0 + 1) w3 (w3.alloc (.cells #[.int .u8 128] 5))).trans hb4)
  have HO4 := Lib.hid (And.intro ho4 hb14)
  clear ho4 hb14 hb4 hg4 hlit3
  obtain ⟨Z, hZ⟩ : ∃ Z, (119 - N3 % 64) % 64 = Z := ⟨_, rfl⟩
  have HZ := Lib.hid hZ
  clear hZ
  go_loopw [2] (fun v wr => ∃ (z N : Nat) (A : Option Addr) (d : Nat), v = .slice A N d ∧ z ≤ Z ∧ N = N3 + 1 + z ∧ Hid (Ow wr (g0 + 1) 5 A N d (bv (mid l z)) ∧ Below (g0 + 1) W wr)) (fun v _ => (N3 + 1 + Z) - slen v)
  case atStart => exact ⟨0, N3 + 1, A4, d4, rfl, Nat.zero_le _, rfl, HO4⟩
  case round =>
    obtain ⟨z, N, A, d, rfl, hz, hN, HR⟩ := hrel
    have hws : g0 + 1 ≤ wr.heap.size := Nat.le_trans hWle HR.out.2.size
    have hZ := HZ.out
    by_cases hzl : z < Z
    · have hc : ((N : Int) % 64 != 56) = true := bne_iff_ne.2 (by omega)
      have hNb : N ≤ 2000000 := by omega
      have hlit : Rd (wr.alloc (.cells #[.int .u8 0] 5)) (wr.heap.size + 1) (some ⟨wr.heap.size, 0, none⟩) 1 [.int .u8 0] := Rd.one _ _ _
      have HN := Lib.hid hN
      clear hZ hN
      go_wp2_with (at_builtin; refine wp_app u8ty rfl (.tmp 27) (.tmp 28) rfl rfl rfl (HR.out.1.alloc _) hlit (by intro u hu; simp at hu; subst hu; rfl) (by omega) (by omega) (by simp; omega) ?_; intro A5 N5 d5 w5 ho5 hN5 hb5 hg5)
      have hn5 : N5 = N + 1 := by have := ho5.len; rw [List.length_append, bv_len, mid_len] at this; have := HN.out; have := HL.out; simp at *; omega
      subst hn5
      rw [show bv (mid l z) ++ [Value.int IntKind.u8 0] = bv (mid l (z + 1)) by rw [mid_step, bv_app]; rfl] at ho5
      have hb15 : Below (g0 + 1) W w5 := HR.out.2.trans (((Below.refl _ _).alloc hws _ : Below (g0 + 1) wr (wr.alloc (.cells #[.int .u8 0] 5))).trans hb5)
      exact ⟨⟨z + 1, N + 1, A5, d5, rfl, hzl, by have := HN.out; omega, Lib.hid ⟨ho5, hb15⟩⟩, by simp only [slen]; have := HN.out; omega⟩
    · obtain rfl : z = Z := by omega
      have hc : ((N : Int) % 64 != 56) = false := by
        have : (N : Int) % 64 = 56 := by omega
        rw [this]; rfl
      have HN := Lib.hid hN
      clear hZ hN
      obtain ⟨wp, hwp⟩ : ∃ x, x = wr := ⟨_, rfl⟩
      subst hwp
      have HP := HR
      clear HR
      go_wp2_with fail
      go_loopw [2, 8] (fun v i wr => ∃ (k Nq : Nat) (A : Option Addr) (d : Nat) (y : Int), v = .slice A Nq d ∧ i = .int .i64 y ∧ k ≤ 8 ∧ Hid (y = 7 - (k : Int)) ∧ Nq = N + k ∧ Hid (Ow wr (g0 + 1) 5 A Nq d (bv (mid l z ++ ((List.range 8).map (be8 (8 * N3))).take k)) ∧ Below (g0 + 1) W wr)) (fun _ i _ => (intOf i + 1).toNat)
      case atStart => exact ⟨0, N, A, d, 7, rfl, rfl, by omega, Lib.hid (by omega), by omega, Lib.hid ⟨by simpa using HP.out.1, HP.out.2⟩⟩
      case round =>
        obtain ⟨k, Nq, Aq, dq, y, rfl, rfl, hk8, HY, hNq, HQ⟩ := hrel
        have hws2 : g0 + 1 ≤ wr.heap.size := Nat.le_trans hWle HQ.out.2.size
        have HNq := Lib.hid hNq
        have hNqb : Nq ≤ 3000000 := by have := HN.out; have := HZ.out; omega
        clear hNq
        by_cases hk : k < 8
        · have hbe := be8_step (8 * N3) k hk
          have HBE := Lib.hid hbe
          clear hbe
          rcases (show k = 0 ∨ k = 1 ∨ k = 2 ∨ k = 3 ∨ k = 4 ∨ k = 5 ∨ k = 6 ∨ k = 7 by omega) with hk0 | hk1 | hk2 | hk3 | hk4 | hk5 | hk6 | hk7
          · have hy : y = 7 := by have := HY.out; omega
            subst hy
            go_upto_region 8 with (at_builtin; refine wp_app u8ty rfl (.tmp 34) (.tmp 41) rfl rfl rfl (HQ.out.1.alloc _) (Rd.one _ _ _) (one1 rfl) (by omega) (by omega) (by simp; omega) ?_; intro A6 N6 d6 w6 ho6 hN6 hb6 hg6)
            obtain ⟨V, hV, ho7⟩ : ∃ V : Int, V = ((be8 (8 * N3) 0).toNat : Int) ∧ Ow w6 (g0 + 1) 5 A6 N6 d6 (bv (mid l z ++ ((List.range 8).map (be8 (8 * N3))).take k) ++ [.int .u8 V]) := ⟨_, (by show _ = ((UInt8.ofNat (8 * N3 / 2 ^ 56)).toNat : Int); rw [UInt8.toNat_ofNat']; omega), ho6⟩
            have hb7 : Below (g0 + 1) W w6 := HQ.out.2.trans (((Below.refl _ _).alloc hws2 _).trans hb6)
            have hN6q : N6 = N + (k + 1) := by have h1 := ho7.len; have h2 := HQ.out.1.len; rw [List.length_append, h2] at h1; have h3 := HNq.out; simp at h1; omega
            rw [hV, show [Value.int IntKind.u8 ((be8 (8 * N3) 0).toNat : Int)] = bv [be8 (8 * N3) k] by rw [hk0]; rfl, ← bv_app, List.append_assoc, ← HBE.out] at ho7
            have H7 := Lib.hid (And.intro ho7 hb7)
            have hy2 : (7 : Int) - 1 = 7 - ((k + 1 : Nat) : Int) := by omega
            have HY2 := Lib.hid hy2
            clear hV ho7 hb7 hb6 hg6 ho6 hy2
            go_wp2_with fail
            exact ⟨⟨k + 1, N6, A6, d6, _, rfl, rfl, by omega, HY2, hN6q, H7⟩, by simp [intOf]⟩
          · have hy : y = 6 := by have := HY.out; omega
            subst hy
            go_upto_region 8 with (at_builtin; refine wp_app u8ty rfl (.tmp 34) (.tmp 41) rfl rfl rfl (HQ.out.1.alloc _) (Rd.one _ _ _) (one1 rfl) (by omega) (by omega) (by simp; omega) ?_; intro A6 N6 d6 w6 ho6 hN6 hb6 hg6)
            obtain ⟨V, hV, ho7⟩ : ∃ V : Int, V = ((be8 (8 * N3) 1).toNat : Int) ∧ Ow w6 (g0 + 1) 5 A6 N6 d6 (bv (mid l z ++ ((List.range 8).map (be8 (8 * N3))).take k) ++ [.int .u8 V]) := ⟨_, (by show _ = ((UInt8.ofNat (8 * N3 / 2 ^ 48)).toNat : Int); rw [UInt8.toNat_ofNat']; omega), ho6⟩
            have hb7 : Below (g0 + 1) W w6 := HQ.out.2.trans (((Below.refl _ _).alloc hws2 _).trans hb6)
            have hN6q : N6 = N + (k + 1) := by have h1 := ho7.len; have h2 := HQ.out.1.len; rw [List.length_append, h2] at h1; have h3 := HNq.out; simp at h1; omega
            rw [hV, show [Value.int IntKind.u8 ((be8 (8 * N3) 1).toNat : Int)] = bv [be8 (8 * N3) k] by rw [hk1]; rfl, ← bv_app, List.append_assoc, ← HBE.out] at ho7
            have H7 := Lib.hid (And.intro ho7 hb7)
            have hy2 : (6 : Int) - 1 = 7 - ((k + 1 : Nat) : Int) := by omega
            have HY2 := Lib.hid hy2
            clear hV ho7 hb7 hb6 hg6 ho6 hy2
            go_wp2_with fail
            exact ⟨⟨k + 1, N6, A6, d6, _, rfl, rfl, by omega, HY2, hN6q, H7⟩, by simp [intOf]⟩
          · have hy : y = 5 := by have := HY.out; omega
            subst hy
            go_upto_region 8 with (at_builtin; refine wp_app u8ty rfl (.tmp 34) (.tmp 41) rfl rfl rfl (HQ.out.1.alloc _) (Rd.one _ _ _) (one1 rfl) (by omega) (by omega) (by simp; omega) ?_; intro A6 N6 d6 w6 ho6 hN6 hb6 hg6)
            obtain ⟨V, hV, ho7⟩ : ∃ V : Int, V = ((be8 (8 * N3) 2).toNat : Int) ∧ Ow w6 (g0 + 1) 5 A6 N6 d6 (bv (mid l z ++ ((List.range 8).map (be8 (8 * N3))).take k) ++ [.int .u8 V]) := ⟨_, (by show _ = ((UInt8.ofNat (8 * N3 / 2 ^ 40)).toNat : Int); rw [UInt8.toNat_ofNat']; omega), ho6⟩
            have hb7 : Below (g0 + 1) W w6 := HQ.out.2.trans (((Below.refl _ _).alloc hws2 _).trans hb6)
            have hN6q : N6 = N + (k + 1) := by have h1 := ho7.len; have h2 := HQ.out.1.len; rw [List.length_append, h2] at h1; have h3 := HNq.out; simp at h1; omega
            rw [hV, show [Value.int IntKind.u8 ((be8 (8 * N3) 2).toNat : Int)] = bv [be8 (8 * N3) k] by rw [hk2]; rfl, ← bv_app, List.append_assoc, ← HBE.out] at ho7
            have H7 := Lib.hid (And.intro ho7 hb7)
            have hy2 : (5 : Int) - 1 = 7 - ((k + 1 : Nat) : Int) := by omega
            have HY2 := Lib.hid hy2
            clear hV ho7 hb7 hb6 hg6 ho6 hy2
            go_wp2_with fail
            exact ⟨⟨k + 1, N6, A6, d6, _, rfl, rfl, by omega, HY2, hN6q, H7⟩, by simp [intOf]⟩
          · have hy : y = 4 := by have := HY.out; omega
            subst hy
            go_upto_region 8 with (at_builtin; refine wp_app u8ty rfl (.tmp 34) (.tmp 41) rfl rfl rfl (HQ.out.1.alloc _) (Rd.one _ _ _) (one1 rfl) (by omega) (by omega) (by simp; omega) ?_; intro A6 N6 d6 w6 ho6 hN6 hb6 hg6)
            obtain ⟨V, hV, ho7⟩ : ∃ V : Int, V = ((be8 (8 * N3) 3).toNat : Int) ∧ Ow w6 (g0 + 1) 5 A6 N6 d6 (bv (mid l z ++ ((List.range 8).map (be8 (8 * N3))).take k) ++ [.int .u8 V]) := ⟨_, (by show _ = ((UInt8.ofNat (8 * N3 / 2 ^ 32)).toNat : Int); rw [UInt8.toNat_ofNat']; omega), ho6⟩
            have hb7 : Below (g0 + 1) W w6 := HQ.out.2.trans (((Below.refl _ _).alloc hws2 _).trans hb6)
            have hN6q : N6 = N + (k + 1) := by have h1 := ho7.len; have h2 := HQ.out.1.len; rw [List.length_append, h2] at h1; have h3 := HNq.out; simp at h1; omega
            rw [hV, show [Value.int IntKind.u8 ((be8 (8 * N3) 3).toNat : Int)] = bv [be8 (8 * N3) k] by rw [hk3]; rfl, ← bv_app, List.append_assoc, ← HBE.out] at ho7
            have H7 := Lib.hid (And.intro ho7 hb7)
            have hy2 : (4 : Int) - 1 = 7 - ((k + 1 : Nat) : Int) := by omega
            have HY2 := Lib.hid hy2
            clear hV ho7 hb7 hb6 hg6 ho6 hy2
            go_wp2_with fail
            exact ⟨⟨k + 1, N6, A6, d6, _, rfl, rfl, by omega, HY2, hN6q, H7⟩, by simp [intOf]⟩
          · have hy : y = 3 := by have := HY.out; omega
            subst hy
            go_upto_region 8 with (at_builtin; refine wp_app u8ty rfl (.tmp 34) (.tmp 41) rfl rfl rfl (HQ.out.1.alloc _) (Rd.one _ _ _) (one1 rfl) (by omega) (by omega) (by simp; omega) ?_; intro A6 N6 d6 w6 ho6 hN6 hb6 hg6)
            obtain ⟨V, hV, ho7⟩ : ∃ V : Int, V = ((be8 (8 * N3) 4).toNat : Int) ∧ Ow w6 (g0 + 1) 5 A6 N6 d6 (bv (mid l z ++ ((List.range 8).map (be8 (8 * N3))).take k) ++ [.int .u8 V]) := ⟨_, (by show _ = ((UInt8.ofNat (8 * N3 / 2 ^ 24)).toNat : Int); rw [UInt8.toNat_ofNat']; omega), ho6⟩
            have hb7 : Below (g0 + 1) W w6 := HQ.out.2.trans (((Below.refl _ _).alloc hws2 _).trans hb6)
            have hN6q : N6 = N + (k + 1) := by have h1 := ho7.len; have h2 := HQ.out.1.len; rw [List.length_append, h2] at h1; have h3 := HNq.out; simp at h1; omega
            rw [hV, show [Value.int IntKind.u8 ((be8 (8 * N3) 4).toNat : Int)] = bv [be8 (8 * N3) k] by rw [hk4]; rfl, ← bv_app, List.append_assoc, ← HBE.out] at ho7
            have H7 := Lib.hid (And.intro ho7 hb7)
            have hy2 : (3 : Int) - 1 = 7 - ((k + 1 : Nat) : Int) := by omega
            have HY2 := Lib.hid hy2
            clear hV ho7 hb7 hb6 hg6 ho6 hy2
            go_wp2_with fail
            exact ⟨⟨k + 1, N6, A6, d6, _, rfl, rfl, by omega, HY2, hN6q, H7⟩, by simp [intOf]⟩
          · have hy : y = 2 := by have := HY.out; omega
            subst hy
            go_upto_region 8 with (at_builtin; refine wp_app u8ty rfl (.tmp 34) (.tmp 41) rfl rfl rfl (HQ.out.1.alloc _) (Rd.one _ _ _) (one1 rfl) (by omega) (by omega) (by simp; omega) ?_; intro A6 N6 d6 w6 ho6 hN6 hb6 hg6)
            obtain ⟨V, hV, ho7⟩ : ∃ V : Int, V = ((be8 (8 * N3) 5).toNat : Int) ∧ Ow w6 (g0 + 1) 5 A6 N6 d6 (bv (mid l z ++ ((List.range 8).map (be8 (8 * N3))).take k) ++ [.int .u8 V]) := ⟨_, (by show _ = ((UInt8.ofNat (8 * N3 / 2 ^ 16)).toNat : Int); rw [UInt8.toNat_ofNat']; omega), ho6⟩
            have hb7 : Below (g0 + 1) W w6 := HQ.out.2.trans (((Below.refl _ _).alloc hws2 _).trans hb6)
            have hN6q : N6 = N + (k + 1) := by have h1 := ho7.len; have h2 := HQ.out.1.len; rw [List.length_append, h2] at h1; have h3 := HNq.out; simp at h1; omega
            rw [hV, show [Value.int IntKind.u8 ((be8 (8 * N3) 5).toNat : Int)] = bv [be8 (8 * N3) k] by rw [hk5]; rfl, ← bv_app, List.append_assoc, ← HBE.out] at ho7
            have H7 := Lib.hid (And.intro ho7 hb7)
            have hy2 : (2 : Int) - 1 = 7 - ((k + 1 : Nat) : Int) := by omega
            have HY2 := Lib.hid hy2
            clear hV ho7 hb7 hb6 hg6 ho6 hy2
            go_wp2_with fail
            exact ⟨⟨k + 1, N6, A6, d6, _, rfl, rfl, by omega, HY2, hN6q, H7⟩, by simp [intOf]⟩
          · have hy : y = 1 := by have := HY.out; omega
            subst hy
            go_upto_region 8 with (at_builtin; refine wp_app u8ty rfl (.tmp 34) (.tmp 41) rfl rfl rfl (HQ.out.1.alloc _) (Rd.one _ _ _) (one1 rfl) (by omega) (by omega) (by simp; omega) ?_; intro A6 N6 d6 w6 ho6 hN6 hb6 hg6)
            obtain ⟨V, hV, ho7⟩ : ∃ V : Int, V = ((be8 (8 * N3) 6).toNat : Int) ∧ Ow w6 (g0 + 1) 5 A6 N6 d6 (bv (mid l z ++ ((List.range 8).map (be8 (8 * N3))).take k) ++ [.int .u8 V]) := ⟨_, (by show _ = ((UInt8.ofNat (8 * N3 / 2 ^ 8)).toNat : Int); rw [UInt8.toNat_ofNat']; omega), ho6⟩
            have hb7 : Below (g0 + 1) W w6 := HQ.out.2.trans (((Below.refl _ _).alloc hws2 _).trans hb6)
            have hN6q : N6 = N + (k + 1) := by have h1 := ho7.len; have h2 := HQ.out.1.len; rw [List.length_append, h2] at h1; have h3 := HNq.out; simp at h1; omega
            rw [hV, show [Value.int IntKind.u8 ((be8 (8 * N3) 6).toNat : Int)] = bv [be8 (8 * N3) k] by rw [hk6]; rfl, ← bv_app, List.append_assoc, ← HBE.out] at ho7
            have H7 := Lib.hid (And.intro ho7 hb7)
            have hy2 : (1 : Int) - 1 = 7 - ((k + 1 : Nat) : Int) := by omega
            have HY2 := Lib.hid hy2
            clear hV ho7 hb7 hb6 hg6 ho6 hy2
            go_wp2_with fail
            exact ⟨⟨k + 1, N6, A6, d6, _, rfl, rfl, by omega, HY2, hN6q, H7⟩, by simp [intOf]⟩
          · have hy : y = 0 := by have := HY.out; omega
            subst hy
            go_upto_region 8 with (at_builtin; refine wp_app u8ty rfl (.tmp 34) (.tmp 41) rfl rfl rfl (HQ.out.1.alloc _) (Rd.one _ _ _) (one1 rfl) (by omega) (by omega) (by simp; omega) ?_; intro A6 N6 d6 w6 ho6 hN6 hb6 hg6)
            obtain ⟨V, hV, ho7⟩ : ∃ V : Int, V = ((be8 (8 * N3) 7).toNat : Int) ∧ Ow w6 (g0 + 1) 5 A6 N6 d6 (bv (mid l z ++ ((List.range 8).map (be8 (8 * N3))).take k) ++ [.int .u8 V]) := ⟨_, (by show _ = ((UInt8.ofNat (8 * N3 / 2 ^ 0)).toNat : Int); rw [UInt8.toNat_ofNat']; omega), ho6⟩
            have hb7 : Below (g0 + 1) W w6 := HQ.out.2.trans (((Below.refl _ _).alloc hws2 _).trans hb6)
            have hN6q : N6 = N + (k + 1) := by have h1 := ho7.len; have h2 := HQ.out.1.len; rw [List.length_append, h2] at h1; have h3 := HNq.out; simp at h1; omega
            rw [hV, show [Value.int IntKind.u8 ((be8 (8 * N3) 7).toNat : Int)] = bv [be8 (8 * N3) k] by rw [hk7]; rfl, ← bv_app, List.append_assoc, ← HBE.out] at ho7
            have H7 := Lib.hid (And.intro ho7 hb7)
            have hy2 : (0 : Int) - 1 = 7 - ((k + 1 : Nat) : Int) := by omega
            have HY2 := Lib.hid hy2
            clear hV ho7 hb7 hb6 hg6 ho6 hy2
            go_wp2_with fail
            exact ⟨⟨k + 1, N6, A6, d6, _, rfl, rfl, by omega, HY2, hN6q, H7⟩, by simp [intOf]⟩
        · obtain rfl : k = 8 := by omega
          have hy : y = -1 := by have := HY.out; omega
          subst hy
          rw [List.take_of_length_le (by simp)] at HQ
          obtain ⟨wq, hwq⟩ : ∃ x, x = wr := ⟨_, rfl⟩
          subst hwq
          have hlen8 : 8 * l.length < 4294967296 := by have := HL.out; omega
          have hpm := padded_mid l hlen8
          rw [HL.out] at hpm
          have hZz := HZ.out
          rw [hZz] at hpm
          have HPM := Lib.hid hpm
          have hpad : (mid l z ++ (List.range 8).map (be8 (8 * N3))) = padded l := hpm.symm
          rw [hpad] at HQ
          have hXb : Below wq.heap.size wq (wq.alloc (.cells #[] 41)) := (Below.refl _ _).alloc (Nat.le_refl _) _
          have hlit := Ow.lit0 wq 41 (Nat.le_refl wq.heap.size)
          have hgw : g0 ≤ W.heap.size := Nat.le_of_lt hWlt
          have hbW : Below g0 W wq := HQ.out.2.mono (Nat.le_succ _)
          have hsr := H.out.1.below (hbW.trans (hXb.mono (Nat.le_trans hgw HQ.out.2.size))) hB2
          have HXB := Lib.hid hXb
          clear hpm hpad hXb hZz
          go_upto_region 11 with (at_builtin; refine wp_app u32tyB rfl (.tmp 43) (.tmp 44) rfl rfl rfl hlit hsr (wvs_one _) (by omega) (by omega) (by simp) ?_; intro A8 N8 d8 w8 ho8 hN8 hb8 hg8)
          have hN88 : N8 = 8 := by have := ho8.len; rw [List.nil_append, wvs_len] at this; exact this.symm
          subst hN88
          rw [List.nil_append] at ho8
          have H8 := Lib.hid (And.intro ho8 (HXB.out.trans hb8))
          clear ho8 hb8 hg8 hlit hsr
          have hNq8 : Nq = N + 8 := HNq.out
          have hN64 : ∃ b : Nat, Nq = 64 * b := ⟨Nq / 64, by have := HN.out; have := HZ.out; omega⟩
          obtain ⟨b, hb64⟩ := hN64
          have HPL : Hid ((padded l).length = Nq) := Lib.hid (by have := HQ.out.1.len; rw [bv_len] at this; exact this)
          clear hNq8
          have HB64 := Lib.hid hb64
          clear hb64
          go_wp2_with fail
          obtain ⟨gq, rfl, hgq1, hgq2⟩ := HQ.out.1.at0 (by have := HNq.out; omega)
          have hcapq := HQ.out.1.cap.1
          go_loopw [9, 10] (fun v i wr => ∃ (k o : Nat) (A : Option Addr) (d : Nat), v = .slice A 8 d ∧ 8 ≤ d ∧ i = .int .i64 (o : Int) ∧ k ≤ b ∧ Hid (o = 64 * k) ∧ Hid (Ow wr wq.heap.size 41 A 8 d (wvs (stL (stN (padded l) k))) ∧ Below wq.heap.size wq wr)) (fun _ i _ => 64 * b - (intOf i).toNat)
          case atStart => exact ⟨0, 0, A8, d8, rfl, H8.out.1.cap.1, rfl, Nat.zero_le _, Lib.hid rfl, H8⟩
          case round =>
            obtain ⟨k, o, Av, dv, rfl, hdv8, rfl, hkb, HO, HV⟩ := hrel
            by_cases hkl : k < b
            · have hlt : (o : Int) < (Nq : Int) := by have := HB64.out; have := HO.out; omega
              have hs1 : (o : Int) + 64 ≤ (dq : Int) := by have := HB64.out; have := HO.out; omega
              have hs2 : ¬ dq = o := by omega
              have hbl : (blk64 (padded l) k).length = 64 := by unfold blk64; rw [List.length_take, List.length_drop, HPL.out]; have := HB64.out; omega
              have hcut : Rd wr wr.heap.size (some ⟨gq, o, none⟩) 64 (bv (blk64 (padded l) k)) := by
                have h1 : Rd wr wq.heap.size (some ⟨gq, 0, none⟩) Nq (bv (padded l)) := HQ.out.1.rd.below HV.out.2 (Nat.le_refl _)
                have h2 := (h1.cut (l := o) (m := 64) (A' := some ⟨gq, o, none⟩) (by have := HB64.out; have := HO.out; omega) (fun _ => by simp [Addr.add])).more HV.out.2.size
                rw [← bv_drop, ← bv_take] at h2
                unfold blk64
                rw [← HO.out]
                exact h2
              have hkd : Rd wr wr.heap.size A1 64 (wvs cubes) := (H.out.2.1.below (hbW.trans (HV.out.2.mono (Nat.le_trans hgw HQ.out.2.size))) hB2).more (by have := HV.out.2.size; have := HQ.out.2.size; omega)
              have hblk := refBlock_any (stN (padded l) k) Av A1 (some ⟨gq, o, none⟩) dv c1 (dq - o) wr.heap.size (blk64 (padded l) k) hbl wr HV.out.1.rd hkd hcut (Nat.le_refl _) hdv8
              rw [show mixed (stN (padded l) k) (wordsN (blk64 (padded l) k) 64) = stN (padded l) (k + 1) from rfl] at hblk
              have HBLK := Lib.hid hblk
              clear hblk hcut hkd hbl
              go_wp2_with (go_at_call 20; refine (HBLK.out).mono ?_; rintro e w9 ⟨A9, d9, rfl, ho9, hb9⟩)
              have hov := HO.out
              exact ⟨⟨k + 1, o + 64, A9, d9, rfl, ho9.cap.1, by go_num, by omega, Lib.hid (by omega), Lib.hid ⟨ho9.base HV.out.2.size, HV.out.2.trans (hb9.mono HV.out.2.size)⟩⟩, by simp [intOf]; have := HB64.out; omega⟩
            · obtain rfl : k = b := by omega
              have hlt : ¬ (o : Int) < (Nq : Int) := by have := HB64.out; have := HO.out; omega
              obtain ⟨wz, hwz⟩ : ∃ x, x = wr := ⟨_, rfl⟩
              subst hwz
              have hbz := build_z32
              have hone : ∀ v ∈ z32, v.oneCell' = true := bv_one _
              have hone2 := all_oneCell_toArray hone
              have hsz3 : z32.toArray.size = 32 := by rw [List.size_toArray, hz32]
              have hthz : ∀ y : World, (y.alloc (.cells z32.toArray 26)).there y.heap.size 0 32 := fun y => by have := there_new y z32 26; rwa [hz32] at this
              have hXs := World.rangeAt_setCells_same (wz.alloc (.cells z32.toArray 26)) wz.heap.size 0 z32 (by rw [hz32]; exact hthz wz)
              have hXt := there_set (hthz wz) wz.heap.size 0 z32 (by rw [hz32]; exact hthz wz)
              have hXb : Below wz.heap.size wz ((wz.alloc (.cells z32.toArray 26)).setCells wz.heap.size 0 z32) := (Keep1.sets wz.heap.size z32 0 _).below ((Below.refl _ _).alloc (Nat.le_refl _) _) (by simp) (Nat.le_refl _)
              have hXz : wz.heap.size < ((wz.alloc (.cells z32.toArray 26)).setCells wz.heap.size 0 z32).heap.size := by rw [setCells_size]; simp
              have hinfZ : (Tryd.prog.info? 26).map (·.size) = some z32.toArray.size := by rw [hsz3]; kernel_rfl
              have hthq : ∀ y : World, (y.alloc (.cells z32.toArray 26)).there y.heap.size 0 Z3.size := fun y => by rw [← hZ3, hsz3]; exact hthz y
              rw [hZ3] at hone2 hsz3 hXs hXt hXb hXz hinfZ
              simp only [hZ3] at hbz
              go_upto_region 16 with (first
                | (refine wp_buildD rfl _ _ rfl (.agg Z3) (by simp only [List.map_toArray, List.map_nil]; exact hbz _) ?_)
                | (refine wpList_store_mid rfl 26 (.tmp 11) (.tmp 60) rfl wz.heap.size 0 Z3 rfl rfl (hthq wz) hinfZ hone2 ?_)
                | fail)
              show Code.wp _ _ _ _ ((wz.alloc (.cells z32.toArray 26)).setCells wz.heap.size 0 Z3.toList)
              rw [show Z3.toList = z32 by rw [← hZ3]]
              rw [hZ3]
              obtain ⟨X, hX⟩ : ∃ x, (wz.alloc (.cells Z3 26)).setCells wz.heap.size 0 z32 = x := ⟨_, rfl⟩
              rw [hX] at hXs hXt hXb hXz ⊢
              obtain ⟨go, hgo⟩ : ∃ x, wz.heap.size = x := ⟨_, rfl⟩
              rw [hgo] at hXs hXt hXb hXz ⊢
              obtain ⟨ws, hws8⟩ : ∃ x, stL (stN (padded l) k) = x := ⟨_, rfl⟩
              have hwsl : ws.length = 8 := by rw [← hws8]; rfl
              have hout0 : outN ws 0 = List.replicate 32 0 := by simp [outN]
              have hovX := HV.out.1.rd.below (by rw [← hgo] at hXb; exact hXb) (Nat.le_refl _)
              rw [hgo] at hovX
              rw [hws8] at hovX
              have HX := Lib.hid (And.intro (show X.rangeAt go 0 (bv (outN ws 0)) by rw [hout0]; exact hXs) (And.intro hXt (And.intro hXb hovX)))
              have HWS := Lib.hid hws8
              clear hXs hXt hXb hovX hX hthq hthz hbz hone hone2 hws8 hout0
              go_wp2_with fail
              go_loopw [61] (fun i wr => ∃ I : Nat, i = .int .i64 (I : Int) ∧ I ≤ 8 ∧ Hid (wr.rangeAt go 0 (bv (outN ws I)) ∧ wr.there go 0 32 ∧ Keep1 X wr go)) (fun i _ => 8 - (intOf i).toNat)
              case atStart => exact ⟨0, rfl, by omega, Lib.hid ⟨HX.out.1, HX.out.2.1, Keep1.refl _ _⟩⟩
              case round =>
                obtain ⟨I, rfl, hI8, HI⟩ := hrel
                by_cases hI : I < 8
                · have k8 : (I : Int) < 8 := by omega
                  obtain ⟨wi, hwi⟩ : ∃ x, x = wr := ⟨_, rfl⟩
                  subst hwi
                  go_wp2_with fail
                  go_loopw [64] (fun j wr => ∃ J : Nat, j = .int .i64 (J : Int) ∧ J ≤ 4 ∧ Hid (wr.rangeAt go 0 (bv (inN ws I J)) ∧ wr.there go 0 32 ∧ Keep1 X wr go)) (fun j _ => 4 - (intOf j).toNat)
                  case atStart => exact ⟨0, rfl, by omega, Lib.hid ⟨by rw [inN_zero]; exact HI.out.1, HI.out.2.1, HI.out.2.2⟩⟩
                  case round =>
                    obtain ⟨J, rfl, hJ4, HJ⟩ := hrel
                    by_cases hJ : J < 4
                    · obtain ⟨bs0, os0, hAv, hbs, hcs⟩ := HX.out.2.2.2.at_ hI
                      subst hAv
                      have hcw := (HJ.out.2.2.cell (a := ⟨bs0, os0 + I, none⟩) (Nat.lt_trans hbs hXz) (Nat.ne_of_lt hbs)).trans hcs
                      rw [wvs_at ws I (by omega)] at hcw
                      obtain ⟨x, hx⟩ : ∃ x, ws.getD I 0 = x := ⟨_, rfl⟩
                      rw [hx] at hcw
                      unfold wv at hcw
                      have hstp := inN_step ws I J hwsl hI hJ
                      rw [hx] at hstp
                      obtain ⟨Nx, hNx⟩ : ∃ z, x.toNat = z := ⟨_, rfl⟩
                      rw [hNx] at hcw
                      have hNxl : Nx < 4294967296 := by rw [← hNx]; exact x.toNat_lt
                      have hin : (inN ws I J).length = 32 := by
                        unfold inN
                        rw [List.length_append, flat_len, List.length_append, List.length_take, List.length_take, bytes4_len, List.length_replicate]
                        omega
                      obtain ⟨q, hq⟩ : ∃ q, 4 * I + J = q := ⟨_, rfl⟩
                      rw [hq] at hstp
                      have hq32 : q < 32 := by omega
                      obtain ⟨hc1, hc2⟩ := HJ.out.2.1 q hq32
                      rw [Nat.zero_add] at hc1 hc2
                      obtain ⟨u0, hu0⟩ := Option.isSome_iff_exists.1 hc1
                      have HSTP := Lib.hid (And.intro hstp (And.intro hx hNx))
                      have hqi : (q : Int) < 32 := by omega
                      have hqe : 4 * (I : Int) + (J : Int) = (q : Int) := by omega
                      clear hstp hx hNx hin hcs hc1
                      have hrI := HJ.out.1
                      have htI := HJ.out.2.1
                      have hkI := HJ.out.2.2
                      rcases (show J = 0 ∨ J = 1 ∨ J = 2 ∨ J = 3 by omega) with hj0 | hj1 | hj2 | hj3
                      · subst hj0
                        have hqe2 : 4 * (I : Int) = (q : Int) := by omega
                        have HQE := Lib.hid hq
                        have hv : (Nx : Int) / 16777216 = (((bytes4 x).getD 0 0).toNat : Int) := by
                          show _ = ((UInt8.ofNat (x.toNat / 16777216)).toNat : Int)
                          rw [HSTP.out.2.2, UInt8.toNat_ofNat']; omega
                        have HV8 := Lib.hid hv
                        clear hq hqe hv
                        go_upto_region 23 with fail
                        rw [HV8.out]
                        have hr9 := range_setD hrI q (.int .u8 (((bytes4 x).getD 0 0).toNat : Int))
                        rw [← bv_set, HSTP.out.1] at hr9
                        have ht9 := there_setD htI go q (.int .u8 (((bytes4 x).getD 0 0).toNat : Int))
                        have hk9 := hkI.trans (Keep1.set wr go q (.int .u8 (((bytes4 x).getD 0 0).toNat : Int)))
                        have H9 := Lib.hid (And.intro hr9 (And.intro ht9 hk9))
                        clear hr9 ht9 hk9 hrI htI hkI
                        obtain ⟨wn, hwn⟩ : ∃ z, wr.setCell ⟨go, q, none⟩ (.int .u8 (((bytes4 x).getD 0 0).toNat : Int)) = z := ⟨_, rfl⟩
                        rw [hwn] at H9 ⊢
                        clear hwn
                        go_wp2_with fail
                        exact ⟨⟨1, rfl, by omega, H9⟩, by simp [intOf]⟩
                      · subst hj1
                        have hqe2 : 4 * (I : Int) + 1 = (q : Int) := by omega
                        have HQE := Lib.hid hq
                        have hv : (Nx : Int) / 65536 % 256 = (((bytes4 x).getD 1 0).toNat : Int) := by
                          show _ = ((UInt8.ofNat (x.toNat / 65536)).toNat : Int)
                          rw [HSTP.out.2.2, UInt8.toNat_ofNat']; omega
                        have HV8 := Lib.hid hv
                        clear hq hqe hv
                        go_upto_region 23 with fail
                        rw [HV8.out]
                        have hr9 := range_setD hrI q (.int .u8 (((bytes4 x).getD 1 0).toNat : Int))
                        rw [← bv_set, HSTP.out.1] at hr9
                        have ht9 := there_setD htI go q (.int .u8 (((bytes4 x).getD 1 0).toNat : Int))
                        have hk9 := hkI.trans (Keep1.set wr go q (.int .u8 (((bytes4 x).getD 1 0).toNat : Int)))
                        have H9 := Lib.hid (And.intro hr9 (And.intro ht9 hk9))
                        clear hr9 ht9 hk9 hrI htI hkI
                        obtain ⟨wn, hwn⟩ : ∃ z, wr.setCell ⟨go, q, none⟩ (.int .u8 (((bytes4 x).getD 1 0).toNat : Int)) = z := ⟨_, rfl⟩
                        rw [hwn] at H9 ⊢
                        clear hwn
                        go_wp2_with fail
                        exact ⟨⟨2, rfl, by omega, H9⟩, by simp [intOf]⟩
                      · subst hj2
                        have hqe2 : 4 * (I : Int) + 2 = (q : Int) := by omega
                        have HQE := Lib.hid hq
                        have hv : (Nx : Int) / 256 % 256 = (((bytes4 x).getD 2 0).toNat : Int) := by
                          show _ = ((UInt8.ofNat (x.toNat / 256)).toNat : Int)
                          rw [HSTP.out.2.2, UInt8.toNat_ofNat']; omega
                        have HV8 := Lib.hid hv
                        clear hq hqe hv
                        go_upto_region 23 with fail
                        rw [HV8.out]
                        have hr9 := range_setD hrI q (.int .u8 (((bytes4 x).getD 2 0).toNat : Int))
                        rw [← bv_set, HSTP.out.1] at hr9
                        have ht9 := there_setD htI go q (.int .u8 (((bytes4 x).getD 2 0).toNat : Int))
                        have hk9 := hkI.trans (Keep1.set wr go q (.int .u8 (((bytes4 x).getD 2 0).toNat : Int)))
                        have H9 := Lib.hid (And.intro hr9 (And.intro ht9 hk9))
                        clear hr9 ht9 hk9 hrI htI hkI
                        obtain ⟨wn, hwn⟩ : ∃ z, wr.setCell ⟨go, q, none⟩ (.int .u8 (((bytes4 x).getD 2 0).toNat : Int)) = z := ⟨_, rfl⟩
                        rw [hwn] at H9 ⊢
                        clear hwn
                        go_wp2_with fail
                        exact ⟨⟨3, rfl, by omega, H9⟩, by simp [intOf]⟩
                      · subst hj3
                        have hqe2 : 4 * (I : Int) + 3 = (q : Int) := by omega
                        have HQE := Lib.hid hq
                        have hv : (Nx : Int) % 256 = (((bytes4 x).getD 3 0).toNat : Int) := by
                          show _ = ((UInt8.ofNat (x.toNat)).toNat : Int)
                          rw [HSTP.out.2.2, UInt8.toNat_ofNat']; omega
                        have HV8 := Lib.hid hv
                        clear hq hqe hv
                        go_upto_region 23 with fail
                        rw [HV8.out]
                        have hr9 := range_setD hrI q (.int .u8 (((bytes4 x).getD 3 0).toNat : Int))
                        rw [← bv_set, HSTP.out.1] at hr9
                        have ht9 := there_setD htI go q (.int .u8 (((bytes4 x).getD 3 0).toNat : Int))
                        have hk9 := hkI.trans (Keep1.set wr go q (.int .u8 (((bytes4 x).getD 3 0).toNat : Int)))
                        have H9 := Lib.hid (And.intro hr9 (And.intro ht9 hk9))
                        clear hr9 ht9 hk9 hrI htI hkI
                        obtain ⟨wn, hwn⟩ : ∃ z, wr.setCell ⟨go, q, none⟩ (.int .u8 (((bytes4 x).getD 3 0).toNat : Int)) = z := ⟨_, rfl⟩
                        rw [hwn] at H9 ⊢
                        clear hwn
                        go_wp2_with fail
                        exact ⟨⟨4, rfl, by omega, H9⟩, by simp [intOf]⟩
                    · obtain rfl : J = 4 := by omega
                      have k4n : ¬ ((4 : Nat) : Int) < 4 := by omega
                      have H10 : Hid (wr.rangeAt go 0 (bv (outN ws (I + 1))) ∧ wr.there go 0 32 ∧ Keep1 X wr go) := Lib.hid ⟨by rw [← inN_four ws I hwsl hI]; exact HJ.out.1, HJ.out.2⟩
                      go_wp2_with fail
                      exact ⟨⟨I + 1, by go_num, by omega, H10⟩, by simp [intOf]; omega⟩
                · obtain rfl : I = 8 := by omega
                  have k8n : ¬ ((8 : Nat) : Int) < 8 := by omega
                  have hdig : ws.flatMap bytes4 = digest l := by
                    rw [← HWS.out]
                    unfold digest outS
                    rw [HPL.out, show Nq / 64 = k by have := HB64.out; omega]
                  have hr := HI.out.1
                  rw [outN_full ws hwsl, hdig] at hr
                  have hdl : (bv (digest l)).length = 32 := by rw [bv_len, ← hdig, flat_len, hwsl]
                  have hdo := bv_one (digest l)
                  have hgz : g0 < go := by have := HV.out.2.size; have := HQ.out.2.size; omega
                  have hb0X : Below g0 W X := (hbW.trans (HV.out.2.mono (Nat.le_trans hgw HQ.out.2.size))).trans (HX.out.2.2.1.mono (Nat.le_of_lt hgz))
                  have hbr : Below g0 w wr := HI.out.2.2.below (H.out.2.2.2.2.trans hb0X) (by have := hXz; omega) (Nat.le_of_lt hgz)
                  have ht0 : wr.there g0 0 32 := there_keep (there_below (there_below (there_below H.out.2.2.2.1 HQ.out.2 (Nat.lt_succ_self g0) hWlt) HV.out.2 (by have := HQ.out.2.size; omega) (by have := HQ.out.2.size; omega)) HX.out.2.2.1 hgz (by have := HV.out.2.size; have := HQ.out.2.size; omega)) HI.out.2.2 (Nat.lt_trans hgz hXz) (Nat.ne_of_lt hgz)
                  obtain ⟨V, hV⟩ : ∃ V, bv (digest l) = V := ⟨_, rfl⟩
                  rw [hV] at hr hdl hdo
                  have HVV := Lib.hid hV
                  have HBR := Lib.hid (And.intro hbr (Nat.le_refl g0))
                  clear hV hbr hdig hb0X
                  go_wp2_with (first
                    | (refine wpList_load_mid rfl 26 (.tmp 11) rfl go 0 rfl V _ hr Tryd.underlying26 rfl (by rw [hdl]; kernel_rfl) ?_)
                    | (refine wpList_store_mid rfl 26 (.tmp 6) (.tmp 84) rfl g0 0 V.toArray rfl rfl (by rw [List.size_toArray, hdl]; exact ht0) (by rw [List.size_toArray, hdl]; kernel_rfl) (all_oneCell_toArray hdo) ?_)
                    | fail)
                  refine bodyPost_ret (v := .agg V.toArray) ?_ rfl ?_
                  · exact results_row rfl _ g0 0 V _ rfl (World.rangeAt_setCells_same wr g0 0 V (by rw [hdl]; exact ht0)) Tryd.underlying26 rfl (by rw [hdl]; kernel_rfl)
                  · refine ⟨by rw [HVV.out], ?_⟩
                    exact (Keep1.sets g0 V 0 wr).below HBR.out.1 (by rw [← HG.out]; have := HBR.out.1.size; rw [HG.out] at this ⊢; exact this) (Nat.le_refl _)
end Go.Proofs.YtagomegeeijfnaaDoor.dg
