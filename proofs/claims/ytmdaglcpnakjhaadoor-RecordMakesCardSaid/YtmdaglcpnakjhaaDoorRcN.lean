/- The examples of layer 10's laws come out true. -/
import Derived.Test.YtmdaglcpnakjhaaDoorRcM
import Derived.Lib.SlBytesConst
namespace Go.Proofs.YtmdaglcpnakjhaaDoor.rc
set_option maxRecDepth 20000
open Go.RowKit Go.Shelf Mem OM LM DM oct
set_option linter.unusedVariables false
set_option linter.unusedSimpArgs false
attribute [local go_sem] Oper.semAt_some
theorem rd_lit (w : World) (l : List UInt8) (n : Nat) (hn : l.length = n) (m1 m2 : Nat) (cs : Array Value) (hc : cs = (bv l).toArray) : Rd (w.alloc (.cells cs 5 (m1, m2))) (w.heap.size + 1) (some ⟨w.heap.size, 0, none⟩) n (bv l) := by
  subst hc
  refine ⟨by rw [bv_len, hn], fun _ => ⟨_, 0, rfl, by omega, fun i hi => ?_⟩⟩
  rw [Nat.zero_add, cell_of_row _ _ i (bv l).toArray 5 (m1, m2) (heap_alloc_new w _)]
  simp
theorem aw1 : mkK [97, 98, 99] = 2 ∧ mkD [97, 98, 99] = [97, 98, 99] := by decide +kernel
theorem openR_lit (S : Int) (x : List UInt8) (h1 : 1 ≤ x.length) (h2 : x.length ≤ 256) (hS : S = (x.length : Nat)) : openR 2 S (digest x) x = (x, 0) := by
  subst hS
  have hc : chk 2 (x.length : Nat) x.length = 0 := by
    unfold chk fitsR fitsS fitsD
    simp
    omega
  unfold openR
  rw [if_neg (by omega), if_neg (by omega)]
  rw [show carR 2 (x.length : Nat) x = (x, 0) by unfold carR; rw [if_pos rfl]]
  simp
theorem aw2 : putR 3 7 0 0 0 0 0 z32 [] = ([3, 7], 0) := by decide +kernel
theorem build_note7 (w : World) : (Instr.build 28 #[(0, .int .i64 3), (1, .int .i64 7)]).run Tryd.prog w = .ok (.agg (noteL 3 7 0 0 0 0 0 z32 none 0 0).toArray) w := by kernel_rfl
theorem chk0 : chk 0 0 0 = 100 := by decide
theorem v0_range {F P D I : Int} (hF : -9223372036854775808 ≤ F ∧ F ≤ 9223372036854775807) (hP : -9223372036854775808 ≤ P ∧ P ≤ 9223372036854775807) (hD : -9223372036854775808 ≤ D ∧ D ≤ 9223372036854775807) (hI : -9223372036854775808 ≤ I ∧ I ≤ 9223372036854775807) (k : Nat) :
    -9223372036854775808 ≤ v0 F P D I k ∧ v0 F P D I k ≤ 9223372036854775807 := by
  unfold v0
  split
  · exact hF
  · split
    · exact hP
    · split
      · exact hD
      · exact hI
/-- an answered record under a name of its own -/
def MadeV (w : World) (K S : Int) (d x : List UInt8) (er : Int) (e : Ending) (w' : World) : Prop := ∃ RA A n c, e = .returned (.tuple #[.agg RA, .int .i64 er]) ∧ Hid (RA = (recL K S d A n c).toArray) ∧ Ow w' w.heap.size 5 A n c (bv x) ∧ Below w.heap.size w w'
theorem MadeR.v {w : World} {K S : Int} {d x : List UInt8} {er : Int} {e : Ending} {w' : World} (h : MadeR w K S d x er e w') : MadeV w K S d x er e w' := by
  obtain ⟨A, n, c, rfl, h1, h2⟩ := h
  exact ⟨_, A, n, c, rfl, Lib.hid rfl, h1, h2⟩
theorem va_size {RA : Array Value} {K S : Int} {d : List UInt8} {A : Option Addr} {n c : Nat} (hd : d.length = 32) (h : Hid (RA = (recL K S d A n c).toArray)) : RA.size = 35 := by
  rw [h.out, List.size_toArray, recL_len hd]
theorem va_one {RA : Array Value} {K S : Int} {d : List UInt8} {A : Option Addr} {n c : Nat} (h : Hid (RA = (recL K S d A n c).toArray)) : RA.all (·.oneCell') = true := by
  rw [h.out]; exact all_oneCell_toArray rec_one
/-- a record that was put into a variable of its own -/
theorem rec_stored {K S : Int} {d : List UInt8} {A : Option Addr} {n c : Nat} (hd : d.length = 32) (w : World) :
    ((w.alloc (.cells recZ.toArray 26)).setCells w.heap.size 0 (recL K S d A n c)).rangeAt w.heap.size 0 (recL K S d A n c) ∧ ((w.alloc (.cells recZ.toArray 26)).setCells w.heap.size 0 (recL K S d A n c)).there w.heap.size 0 35 ∧
      Below w.heap.size w ((w.alloc (.cells recZ.toArray 26)).setCells w.heap.size 0 (recL K S d A n c)) ∧ w.heap.size < ((w.alloc (.cells recZ.toArray 26)).setCells w.heap.size 0 (recL K S d A n c)).heap.size := by
  have h0 := rec_zero_there w
  have hl := recL_len (K := K) (S := S) (A := A) (n := n) (c := c) hd
  have h1 : (w.alloc (.cells recZ.toArray 26)).there w.heap.size 0 (recL K S d A n c).length := by rw [hl]; exact h0
  refine ⟨World.rangeAt_setCells_same _ _ _ _ h1, dg.there_set h0 _ _ _ h1, ?_, ?_⟩
  · exact (dg.Keep1.sets w.heap.size (recL K S d A n c) 0 _).below ((Below.refl _ w).alloc (Nat.le_refl _) _) (by simp) (Nat.le_refl _)
  · rw [dg.setCells_size]; simp
set_option maxHeartbeats 4000000 in
theorem awake_any (w : World) (hT : dg.Tab w) :
    Calls Tryd.prog 12 #[] w fun e w' => e = .returned (.bool true) ∧ Below w.heap.size w w' := by
  have q1 : ((bs [97, 98, 99]).toList == [97, 98, 99]) = true := by rw [bs_toList]; decide
  have q2 : ((bs [3, 7]).toList == [3, 7]) = true := by rw [bs_toList]; decide
  have hd := digest_len [97, 98, 99]
  have hone : ∀ v ∈ recL 2 3 (digest [97, 98, 99]) none 0 0, v.oneCell' = true := rec_one
  have kc := fun (w : World) (C : Array Value) (n c : Nat) => Lib.run_convert_bytes_const (P := Tryd.prog) w 24 5 C n c Tryd.underlying24 Tryd.underlying5
  have hW0 : Below w.heap.size w (w.alloc (.cells #[.int .u8 97, .int .u8 98, .int .u8 99] 5 (3, 4))) := (Below.refl _ w).alloc (Nat.le_refl _) _
  have hmk := make_new (some ⟨w.heap.size, 0, none⟩) 3 3 (w.heap.size + 1) [97, 98, 99] _ (rd_lit w [97, 98, 99] 3 rfl 3 4 _ rfl) (by simp) (Nat.le_refl _) (hT.below hW0) (by decide)
  rw [aw1.1, aw1.2, show ((3 : Nat) : Int) = 3 from rfl] at hmk
  have HMK := Lib.hid (hmk.mono fun _ _ h => h.v)
  have HQ := Lib.hid (And.intro hW0 hT)
  obtain ⟨dg0, hdg⟩ : ∃ d, digest [97, 98, 99] = d := ⟨_, rfl⟩
  rw [hdg] at HMK hd hone
  have HD := Lib.hid hdg
  clear hmk hdg hW0 hT hone
  go_enter Tryd.func12, Tryd.ntmps12
  unfold MadeV at HMK
  go_upto_region 2 with (first
    | (go_at_call 18; refine (HMK.out).mono ?_; rintro e w1 ⟨RA, A1, n1, c1, rfl, HRA, ho1, hb1⟩; have hsz := va_size hd HRA; have hon := va_one HRA)
    | (refine wpList_store_mid rfl 26 (.tmp 1) (.tmp 11) rfl w1.heap.size 0 RA rfl rfl (by rw [hsz]; exact rec_zero_there w1) (by rw [hsz]; exact info_rec) hon ?_)
    | fail)
  show Code.wp _ _ _ _ ((w1.alloc (.cells recZ.toArray 26)).setCells w1.heap.size 0 RA.toList)
  have hst := rec_stored (K := 2) (S := 3) (A := A1) (n := n1) (c := c1) hd w1
  have hRL : RA.toList = recL 2 3 dg0 A1 n1 c1 := by rw [HRA.out]
  rw [hRL]
  have hn1 : n1 = 3 := by have := ho1.len; simpa [bv_len] using this.symm
  obtain ⟨w2, hw2⟩ : ∃ z, (w1.alloc (.cells recZ.toArray 26)).setCells w1.heap.size 0 (recL 2 3 dg0 A1 n1 c1) = z := ⟨_, rfl⟩
  rw [hw2] at hst ⊢
  have hb01 : Below w.heap.size w w1 := HQ.out.1.trans (hb1.mono HQ.out.1.size)
  have hb02 : Below w.heap.size w w2 := hb01.trans (hst.2.2.1.mono hb01.size)
  have hrd := (ho1.rd.below hst.2.2.1 (Nat.le_refl _))
  have hop := open_any 2 3 dg0 hd A1 n1 c1 _ [97, 98, 99] w2 hrd (Nat.le_of_lt hst.2.2.2) (by omega) (by omega) (HQ.out.2.below hb02)
  rw [← HRA.out, show openR 2 3 dg0 [97, 98, 99] = ([97, 98, 99], 0) by rw [← HD.out]; exact openR_lit 3 [97, 98, 99] (by decide) (by decide) rfl] at hop
  unfold MadeE at hop
  have HOP := Lib.hid hop
  have hr2 := hst.1
  have hlt := hst.2.2.2
  have c20 : w2.cell? ⟨w1.heap.size, 0, none⟩ = some (.int .i64 2) := hr2 0 _ rfl
  have H2 := Lib.hid hb02
  have hrl : (recL 2 3 dg0 A1 n1 c1).toArray = RA := HRA.out.symm
  obtain ⟨RL, hRLn⟩ : ∃ RL, recL 2 3 dg0 A1 n1 c1 = RL := ⟨_, rfl⟩
  rw [hRLn] at hr2 hrl
  have hinfL : (Tryd.prog.info? 26).map (·.size) = some RL.length := by rw [← hRLn, recL_len hd]; exact info_rec
  have HRL := Lib.hid hrl
  clear hrl hst hRL hRLn hb01 hb02 hrd hop hw2
  have hbn := fun y => build_note7 y
  obtain ⟨NA, hNA⟩ : ∃ NA, (noteL 3 7 0 0 0 0 0 z32 none 0 0).toArray = NA := ⟨_, rfl⟩
  simp only [hNA] at hbn
  have hput := fun y => put_any 3 7 0 0 0 0 0 z32 z32_len none 0 0 0 [] y (Rd.nil _ _ _) (Nat.zero_le _) (by omega) (Nat.le_refl _) (by omega) (by omega) (by omega) (v0_range (by omega) (by omega) (by omega) (by omega))
  simp only [hNA, aw2] at hput
  unfold MadeE at hput
  have hbz := fun y => build_zero y
  have hck := fun y => check_any 0 0 z32 z32_len none 0 0 y
  rw [chk0, show recL 0 0 z32 none 0 0 = recZ from rfl] at hck
  obtain ⟨ZA, hZA⟩ : ∃ ZA, recZ.toArray = ZA := ⟨_, rfl⟩
  rw [hZA] at hck
  simp only [hZA] at hbz
  clear hZA hNA
  go_upto_region 4 with (first
    | (refine wpList_load_mid rfl 26 (.tmp 1) rfl w1.heap.size 0 rfl RL _ hr2 Tryd.underlying26 rfl hinfL ?_; rw [HRL.out])
    | (go_at_call 22; refine (HOP.out).mono ?_; rintro e w3 ⟨A3, n3, c3, rfl, ho3, hb3⟩)
    | (refine wp_build_g rfl _ _ rfl (.agg NA) (by simp only [List.map_toArray, List.map_nil, List.map_cons]; exact hbn _) ?_)
    | (go_at_call 24; refine (hput _).mono ?_; rintro e w4 ⟨A4, n4, c4, rfl, ho4, hb4⟩)
    | fail)
  have r3 := run_string Tryd.underlying24 Tryd.underlying5 Tryd.underlying9 (ho3.below hb4 (Nat.le_refl _)).rd c3
  have r4 := run_string Tryd.underlying24 Tryd.underlying5 Tryd.underlying9 ho4.rd c4
  have c40 := (hb4.cell (p := ⟨w1.heap.size, 0, none⟩) (Nat.lt_of_lt_of_le hlt hb3.size)).trans ((hb3.cell (p := ⟨w1.heap.size, 0, none⟩) hlt).trans c20)
  have H4 := Lib.hid ((H2.out.trans (hb3.mono H2.out.size)).trans (hb4.mono (Nat.le_trans H2.out.size hb3.size)))
  clear hr2 c20 ho3 ho4 hb3 hb4 HOP hput hbn
  go_wp2_with (first
    | (refine wp_build_g rfl _ _ rfl (.agg ZA) (by simp only [List.map_toArray, List.map_nil]; exact hbz _) ?_)
    | (go_at_call 13; refine (hck _).mono ?_; rintro e w5 ⟨rfl, hb5⟩)
    | fail)
  go_ret
  exact ⟨rfl, H4.out.trans (hb5.mono H4.out.size)⟩
end Go.Proofs.YtmdaglcpnakjhaaDoor.rc
