/- RecordForm: for every input the law answers true and leaves its arguments as they were; the table that the program lays is tied to its text. -/
import Derived.Test.YtbcgnacfhpahkaaDoorRcGet
import Derived.Test.YtbcgnacfhpahkaaDoorRcZ
namespace Go.Proofs.YtbcgnacfhpahkaaDoor.recordFormDone
open Go.RowKit Mem OM LM DM dg rc
set_option maxRecDepth 20000
set_option linter.unusedSimpArgs false
attribute [local go_sem] Oper.semAt_some
theorem noteL_one {N F P D I K S : Int} {d : List UInt8} {A : Option Addr} {n c : Nat} : ∀ x ∈ noteL N F P D I K S d A n c, x.oneCell' = true := by
  intro x hx
  unfold noteL recL at hx
  simp only [List.mem_cons, List.mem_append, List.not_mem_nil, or_false] at hx
  rcases hx with rfl | rfl | rfl | rfl | rfl | rfl | rfl | hx | rfl
  all_goals (first | rfl | skip)
  obtain ⟨b, _, rfl⟩ := List.mem_map.1 hx
  rfl
theorem putB_len (N F P D I K S : Int) (d x : List UInt8) : (putB N F P D I K S d x).length ≤ 100 + d.length + x.length := by
  unfold putB
  have h1 := numB_le N.toNat
  have h2 := numsV_len (flds N) (v0 F P D I)
  have h3 := flds_three N
  simp only [List.length_append]
  split
  · unfold recB
    have h4 := numB_le K.toNat
    have h5 := numB_le S.toNat
    have h6 := numB_le x.length
    simp only [List.length_append]
    omega
  · simp; omega
theorem getS_two (l : List UInt8) : (getS l).e = 0 ∨ getS l = zeroG := by
  unfold getS
  split
  · exact Or.inl rfl
  · exact Or.inr rfl
set_option maxHeartbeats 16000000 in
theorem walk (N F P D I K S : Int) (d l : List UInt8) (A : Option Addr) (n c : Nat) (A2 : Option Addr) (n2 c2 : Nat) (l2 : List UInt8) (w : World) (hT : Tab w) (hd : d.length = 32) (hr : Rd w w.heap.size A n (bv l)) (hc : n ≤ c) (_hn : n ≤ 9223372036854775807) (hK : -9223372036854775808 ≤ K ∧ K ≤ 9223372036854775807) (hS : -9223372036854775808 ≤ S ∧ S ≤ 9223372036854775807)
    (hN : -9223372036854775808 ≤ N ∧ N ≤ 9223372036854775807) (hF : -9223372036854775808 ≤ F ∧ F ≤ 9223372036854775807) (hP : -9223372036854775808 ≤ P ∧ P ≤ 9223372036854775807) (hD : -9223372036854775808 ≤ D ∧ D ≤ 9223372036854775807) (hI : -9223372036854775808 ≤ I ∧ I ≤ 9223372036854775807)
    (hr2 : Rd w w.heap.size A2 n2 (bv l2)) (_hc2 : n2 ≤ c2) (_hn2 : n2 ≤ 9223372036854775807) :
    Calls Tryd.prog 9 #[.agg (noteL N F P D I K S d A n c).toArray, .slice A2 n2 c2] w fun e w' => e = .returned (.bool true) ∧ Below w.heap.size w w' := by
  have hrg := dg.range_new w (noteL N F P D I K S d A n c) 28
  have hb : Below w.heap.size w (w.alloc (.cells (noteL N F P D I K S d A n c).toArray 28)) := (Below.refl _ _).alloc (Nat.le_refl _) _
  have hlt : w.heap.size < (w.alloc (.cells (noteL N F P D I K S d A n c).toArray 28)).heap.size := by simp
  have hinf : (Tryd.prog.info? 28).map (·.size) = some (noteL N F P D I K S d A n c).length := by rw [noteL_len hd]; exact info_note
  have hr5 := note_rec hrg
  have c39 := hr5 34 _ (recL_34 hd)
  rw [show 5 + 34 = 39 from rfl] at c39
  have hput := fun (y : World) (hy : Rd y y.heap.size A n (bv l)) (hq : n ≤ 1048576) => put_any N F P D I K S d hd A n c _ l y hy (Nat.le_refl _) hq hc hN hK hS (v0_range hF hP hD hI)
  have hsm := fun (A7 : Option Addr) (n7 c7 : Nat) (y : World) (h1 : Rd y y.heap.size A n (bv l)) (h2 : Rd y y.heap.size A7 n7 (bv l)) => refSameNote_any N F P D I K S d hd A A7 n c n7 c7 _ l y h1 h2 (Nat.le_refl _)
  unfold MadeE at hput
  have hln : l.length = n := by rw [← hr.len, bv_len]
  have hl2n : l2.length = n2 := by rw [← hr2.len, bv_len]
  obtain ⟨NL, hNL⟩ : ∃ z, noteL N F P D I K S d A n c = z := ⟨_, rfl⟩
  rw [hNL] at hrg hb hlt hinf c39 ⊢
  simp only [hNL] at hput hsm
  obtain ⟨NA, hNA⟩ : ∃ z, NL.toArray = z := ⟨_, rfl⟩
  rw [hNA] at hrg hb hlt c39 ⊢
  simp only [hNA] at hput hsm
  obtain ⟨W, hW⟩ : ∃ z, w.alloc (.cells NA 28) = z := ⟨_, rfl⟩
  rw [hW] at hrg hb hlt c39
  obtain ⟨g1, hg1e⟩ : ∃ z, w.heap.size = z := ⟨_, rfl⟩
  have hth : ∀ y : World, (y.alloc (.cells noteZ.toArray 28)).there y.heap.size 0 40 := fun y => by have := dg.there_new y noteZ 28; rwa [noteZ_len] at this
  have hbz := fun y => build_note0 y
  have HG := Lib.hid hg1e
  have HT := Lib.hid hT
  have HR := Lib.hid (And.intro hr hr2)
  have HNA := Lib.hid hNA
  have HNL := Lib.hid hNL
  have HPUT := Lib.hid hput
  have HSM := Lib.hid hsm
  have HLL := Lib.hid (And.intro hln hl2n)
  clear hT hr hr2 hNL hNA hput hr5 hsm hln hl2n
  by_cases hbig : 4096 < n ∨ 4096 < n2
  · have h1i : (4096 : Int) < n ∨ (4096 : Int) < n2 := by omega
    rw [hg1e] at hrg hb hlt c39 ⊢
    go_enter Tryd.func9, Tryd.ntmps9
    go_upto_region 1 with fail
    try rw [hW]
    try rw [hg1e]
    by_cases h4 : (4096 : Int) < n
    · go_wp2_with (go_at_call 12; refine (rc.awake_any _ (HT.out.below (by rw [HG.out]; exact hb))).mono ?_; rintro e w1 ⟨rfl, hb1⟩)
      go_ret
      exact ⟨rfl, hb.trans (hb1.mono (Nat.le_of_lt hlt))⟩
    · have h5 : (4096 : Int) < n2 := by omega
      go_wp2_with (go_at_call 12; refine (rc.awake_any _ (HT.out.below (by rw [HG.out]; exact hb))).mono ?_; rintro e w1 ⟨rfl, hb1⟩)
      go_ret
      exact ⟨rfl, hb.trans (hb1.mono (Nat.le_of_lt hlt))⟩
  have hbi : ¬ (4096 : Int) < n := by omega
  have hbi2 : ¬ (4096 : Int) < n2 := by omega
  have hn1 : n ≤ 4096 := by omega
  have hn22 : n2 ≤ 4096 := by omega
  have hrW := HR.out.1.below (w' := W) hb (Nat.le_refl _)
  have hput := HPUT.out W (hrW.more hb.size) (by omega)
  have hrB := fun (y : World) (hy : Below w.heap.size w y) => HR.out.2.below hy (Nat.le_refl _)
  rw [hg1e] at hrg hb hlt c39 hrW hrB ⊢
  have HRB := Lib.hid hrB
  clear hrB
  rcases fitE_two2 N F P D I K S d l.length with hf0 | hf1
  · have hpr : putR N F P D I K S d l = (putB N F P D I K S d l, 0) := by unfold putR; rw [if_pos hf0]
    have hgs := getS_put N F P D I K S d l hd hf0
    have hpl := putB_len N F P D I K S d l
    rw [hpr] at hput
    simp only at hput
    obtain ⟨pb, hpb⟩ : ∃ z, putB N F P D I K S d l = z := ⟨_, rfl⟩
    rw [hpb] at hput hgs hpl
    have HP2 := Lib.hid hput
    have HGS := Lib.hid hgs
    clear hput HPUT hpb hpr hgs
    go_enter Tryd.func9, Tryd.ntmps9
    go_upto_region 1 with fail
    try rw [hW]
    try rw [hg1e]
    go_upto_region 4 with (first
      | (refine wpList_load_mid rfl 28 (.tmp 2) rfl g1 0 rfl NL _ hrg Tryd.underlying28 rfl hinf ?_; rw [HNA.out])
      | (go_at_call 24; refine (HP2.out).mono ?_; rintro e w6 ⟨A6, n6, d6, rfl, ho6, hb6⟩)
      | fail)
    have hn6 : n6 ≤ 1048576 := by have := ho6.len; rw [bv_len] at this; have := HLL.out.1; omega
    have hget := get_any A6 n6 d6 _ pb w6 ho6.rd (Nat.le_refl _) hn6
    unfold GetPost at hget
    rw [HGS.out] at hget
    simp only at hget
    have HGET := Lib.hid hget
    have hrg6 := dg.range_below hrg hb6 hlt
    have hb06 : Below g1 w w6 := hb.trans (hb6.mono (Nat.le_of_lt hlt))
    have hlt6 : g1 < w6.heap.size := Nat.lt_of_lt_of_le hlt hb6.size
    have hrA6 := hrW.below hb6 (Nat.le_of_lt hlt)
    clear hget ho6 hb6
    go_upto_region 6 with (first
      | (go_at_call 26; refine (HGET.out).mono ?_; rintro e w7 ⟨A7, n7, d7, rfl, ho7, hb7⟩; have hsz7 : (noteL N F P D I K S d A7 n7 d7).toArray.size = 40 := (by rw [List.size_toArray]; exact noteL_len hd); have hone7 : (noteL N F P D I K S d A7 n7 d7).toArray.all (·.oneCell') = true := all_oneCell_toArray noteL_one)
      | (refine wpList_store_mid rfl 28 (.tmp 7) (.tmp 32) rfl w7.heap.size 0 (noteL N F P D I K S d A7 n7 d7).toArray rfl rfl (by rw [hsz7]; exact hth w7) (by rw [hsz7]; exact info_note) hone7 ?_)
      | fail)
    show Code.wp _ _ _ _ ((w7.alloc (.cells noteZ.toArray 28)).setCells w7.heap.size 0 (noteL N F P D I K S d A7 n7 d7))
    have hba : Below w7.heap.size w7 (w7.alloc (.cells noteZ.toArray 28)) := (Below.refl _ _).alloc (Nat.le_refl _) _
    have hb8 : Below w7.heap.size w7 ((w7.alloc (.cells noteZ.toArray 28)).setCells w7.heap.size 0 (noteL N F P D I K S d A7 n7 d7)) := (keep_o (dg.Keep1.sets w7.heap.size (noteL N F P D I K S d A7 n7 d7) 0 (w7.alloc (.cells noteZ.toArray 28)))).below hba hba.size (Nat.le_refl _)
    have hr8 := World.rangeAt_setCells_same (w7.alloc (.cells noteZ.toArray 28)) w7.heap.size 0 (noteL N F P D I K S d A7 n7 d7) (by rw [noteL_len hd]; exact hth w7)
    have hs8 : w7.heap.size < ((w7.alloc (.cells noteZ.toArray 28)).setCells w7.heap.size 0 (noteL N F P D I K S d A7 n7 d7)).heap.size := by rw [dg.setCells_size]; simp
    have hi7 : (Tryd.prog.info? 28).map (·.size) = some (noteL N F P D I K S d A7 n7 d7).length := by rw [noteL_len hd]; exact info_note
    obtain ⟨w8, hw8⟩ : ∃ z, (w7.alloc (.cells noteZ.toArray 28)).setCells w7.heap.size 0 (noteL N F P D I K S d A7 n7 d7) = z := ⟨_, rfl⟩
    rw [hw8] at hb8 hr8 hs8 ⊢
    have hb78 := hb7.trans (hb8.mono hb7.size)
    have hsm := HSM.out A7 n7 d7 w8 ((hrA6.below hb78 (Nat.le_of_lt hlt6)).more (Nat.le_trans (Nat.le_of_lt hlt6) hb78.size)) (ho7.below hb8 (Nat.le_refl _)).rd
    obtain ⟨L7, hL7⟩ : ∃ z, noteL N F P D I K S d A7 n7 d7 = z := ⟨_, rfl⟩
    rw [hL7] at hr8 hi7 hsm
    have HS7 := Lib.hid hsm
    have hrg8 := dg.range_below hrg6 hb78 hlt6
    have hb08 : Below g1 w w8 := hb06.trans (hb78.mono (Nat.le_of_lt hlt6))
    obtain ⟨g7, hg7⟩ : ∃ z, w7.heap.size = z := ⟨_, rfl⟩
    rw [hg7] at hr8 hs8 ⊢
    try simp only [Act.put]
    clear hw8 hba hb8 hb78 hsm hL7 hone7 hsz7 ho7 hb7 HGET hrg6 hb06
    go_upto_region 8 with (first
      | (refine wpList_load_mid_g rfl 28 (.tmp 2) rfl g1 0 rfl NL _ hrg8 Tryd.underlying28 rfl hinf ?_; rw [HNA.out])
      | (refine wpList_load_mid_g rfl 28 (.tmp 7) rfl g7 0 rfl L7 _ hr8 Tryd.underlying28 rfl hi7 ?_)
      | (go_at_call 28; refine (HS7.out).mono ?_; rintro e wQ ⟨rfl, hbQ⟩)
      | fail)
    have hb0Q : Below g1 w wQ := hb08.trans (hbQ.mono (by have := hb08.size; omega))
    have hq := HRB.out wQ hb0Q
    have hg1Q : g1 ≤ wQ.heap.size := by have := hb0Q.size; rw [HG.out] at this; exact this
    have hget2 := get_any A2 n2 c2 _ l2 wQ hq hg1Q (by omega)
    unfold GetPost at hget2
    have hok := getS_ok (l := l2)
    have htwo := getS_two l2
    obtain ⟨G, hG⟩ : ∃ z, getS l2 = z := ⟨_, rfl⟩
    simp only [hG] at hget2 hok htwo
    have HGET2 := Lib.hid hget2
    have hGd : G.d.length = 32 := by rcases htwo with h | h
                                     · exact (hok h).2.2.1
                                     · rw [h]; exact z32_len2
    have HOK := Lib.hid hok
    clear hget2 hok hq hG
    go_upto_region 9 with (first
      | (go_at_call 26; refine (HGET2.out).mono ?_; rintro e w9 ⟨A9, n9, d9, rfl, ho9, hb9⟩; have hsz9 : (noteL G.N G.F G.P G.D G.I G.K G.S G.d A9 n9 d9).toArray.size = 40 := (by rw [List.size_toArray]; exact noteL_len hGd); have hone9 : (noteL G.N G.F G.P G.D G.I G.K G.S G.d A9 n9 d9).toArray.all (·.oneCell') = true := all_oneCell_toArray noteL_one)
      | (refine wpList_store_mid rfl 28 (.tmp 9) (.tmp 45) rfl w9.heap.size 0 (noteL G.N G.F G.P G.D G.I G.K G.S G.d A9 n9 d9).toArray rfl rfl (by rw [hsz9]; exact hth w9) (by rw [hsz9]; exact info_note) hone9 ?_)
      | fail)
    show Code.wp _ _ _ _ ((w9.alloc (.cells noteZ.toArray 28)).setCells w9.heap.size 0 (noteL G.N G.F G.P G.D G.I G.K G.S G.d A9 n9 d9))
    have hba9 : Below w9.heap.size w9 (w9.alloc (.cells noteZ.toArray 28)) := (Below.refl _ _).alloc (Nat.le_refl _) _
    have hb10 : Below w9.heap.size w9 ((w9.alloc (.cells noteZ.toArray 28)).setCells w9.heap.size 0 (noteL G.N G.F G.P G.D G.I G.K G.S G.d A9 n9 d9)) := (keep_o (dg.Keep1.sets w9.heap.size (noteL G.N G.F G.P G.D G.I G.K G.S G.d A9 n9 d9) 0 (w9.alloc (.cells noteZ.toArray 28)))).below hba9 hba9.size (Nat.le_refl _)
    have hr10 := World.rangeAt_setCells_same (w9.alloc (.cells noteZ.toArray 28)) w9.heap.size 0 (noteL G.N G.F G.P G.D G.I G.K G.S G.d A9 n9 d9) (by rw [noteL_len hGd]; exact hth w9)
    have hs10 : w9.heap.size < ((w9.alloc (.cells noteZ.toArray 28)).setCells w9.heap.size 0 (noteL G.N G.F G.P G.D G.I G.K G.S G.d A9 n9 d9)).heap.size := by rw [dg.setCells_size]; simp
    have hi10 : (Tryd.prog.info? 28).map (·.size) = some (noteL G.N G.F G.P G.D G.I G.K G.S G.d A9 n9 d9).length := by rw [noteL_len hGd]; exact info_note
    obtain ⟨w10, hw10⟩ : ∃ z, (w9.alloc (.cells noteZ.toArray 28)).setCells w9.heap.size 0 (noteL G.N G.F G.P G.D G.I G.K G.S G.d A9 n9 d9) = z := ⟨_, rfl⟩
    rw [hw10] at hb10 hr10 hs10 ⊢
    have ho10 := ho9.below hb10 (Nat.le_refl _)
    have hb010 : Below g1 w w10 := hb0Q.trans ((hb9.trans (hb10.mono hb9.size)).mono hg1Q)
    have hx9 : G.x.length = n9 := by have := ho9.len; rw [bv_len] at this; exact this
    have hT10 := HT.out.below (w' := w10) (by rw [HG.out]; exact hb010)
    have HT10 := Lib.hid (And.intro hT10 hb010)
    obtain ⟨g9, hg9⟩ : ∃ z, w9.heap.size = z := ⟨_, rfl⟩
    rw [hg9] at hr10 hs10 ⊢
    try simp only [Act.put]
    clear hw10 hba9 hb10 hone9 hsz9 HGET2 hT10 hb9 hb010
    rcases htwo with he0 | hz
    · obtain ⟨q1, q2, q3, q4, q5, q6, q7, q8⟩ := HOK.out he0
      have hput2 := put_any G.N G.F G.P G.D G.I G.K G.S G.d hGd A9 n9 d9 _ G.x w10 ho10.rd (Nat.le_refl _) (by omega) ho10.cap.1 (by omega) (by omega) (by omega) q8
      have hpr2 : putR G.N G.F G.P G.D G.I G.K G.S G.d G.x = (l2, 0) := by unfold putR; rw [if_pos q2, q1]
      unfold MadeE at hput2
      rw [hpr2] at hput2
      simp only at hput2
      obtain ⟨L9, hL9⟩ : ∃ z, noteL G.N G.F G.P G.D G.I G.K G.S G.d A9 n9 d9 = z := ⟨_, rfl⟩
      rw [hL9] at hr10 hi10 hput2
      have HP10 := Lib.hid hput2
      have he0i : ((G.e : Nat) : Int) = 0 := by omega
      rw [he0i]
      clear hput2 hpr2 q1 q2 q8 hL9
      go_upto_region 12 with (first
        | (refine wpList_load_mid_g rfl 28 (.tmp 9) rfl g9 0 rfl L9 _ hr10 Tryd.underlying28 rfl hi10 ?_)
        | (go_at_call 24; refine (HP10.out).mono ?_; rintro e w11 ⟨A11, n11, d11, rfl, ho11, hb11⟩)
        | fail)
      have hb011 : Below g1 w w11 := HT10.out.2.trans (hb11.mono (by have := HT10.out.2.size; rw [HG.out] at this; exact this))
      have hg111 : g1 ≤ w11.heap.size := by have := hb011.size; rw [HG.out] at this; exact this
      have heq := oct.equal_any A11 A2 n11 d11 n2 c2 w11.heap.size l2 l2 w11 ho11.rd ((HRB.out w11 hb011).more hg111)
      rw [decide_eq_true rfl] at heq
      have HEQ := Lib.hid heq
      have hT11 := HT.out.below (w' := w11) (by rw [HG.out]; exact hb011)
      have HT11 := Lib.hid hT11
      clear heq hT11 ho11
      go_wp2_with (first
        | (go_at_call 21; refine (HEQ.out).mono ?_; rintro e w12 ⟨rfl, hw12⟩; subst hw12)
        | (go_at_call 12; refine (rc.awake_any _ HT11.out).mono ?_; rintro e w13 ⟨rfl, hb13⟩)
        | fail)
      go_ret
      exact ⟨rfl, hb011.trans (hb13.mono hg111)⟩
    · subst hz
      have hx0 : n9 = 0 := by rw [← hx9]; rfl
      subst hx0
      have hsm2 := refSameNote_any 0 0 0 0 0 0 0 z32 z32_len2 A9 none 0 d9 0 0 _ [] w10 ho10.rd (Rd.nil _ _ _) (Nat.le_refl _)
      have hL9 : noteL zeroG.N zeroG.F zeroG.P zeroG.D zeroG.I zeroG.K zeroG.S zeroG.d A9 0 d9 = noteL 0 0 0 0 0 0 0 z32 A9 0 d9 := rfl
      rw [hL9] at hr10 hi10
      obtain ⟨L9, hL9'⟩ : ∃ z, noteL 0 0 0 0 0 0 0 z32 A9 0 d9 = z := ⟨_, rfl⟩
      rw [hL9'] at hr10 hi10 hsm2
      rw [show noteL 0 0 0 0 0 0 0 z32 none 0 0 = noteZ from rfl] at hsm2
      obtain ⟨ZA, hZA⟩ : ∃ z, noteZ.toArray = z := ⟨_, rfl⟩
      rw [hZA] at hsm2
      simp only [hZA] at hbz
      have HS10 := Lib.hid hsm2
      have heE : ((zeroG.e : Nat) : Int) = 100 := rfl
      rw [heE]
      clear hsm2 hL9 hL9' hZA
      go_wp2_with (first
        | (refine wpList_load_mid_g rfl 28 (.tmp 9) rfl g9 0 rfl L9 _ hr10 Tryd.underlying28 rfl hi10 ?_)
        | (refine wp_build_g rfl _ _ rfl (.agg ZA) (by simp only [List.map_toArray, List.map_nil]; exact hbz _) ?_)
        | (go_at_call 28; refine (HS10.out).mono ?_; rintro e w11 ⟨rfl, hb11⟩; have hb011 : Below g1 w w11 := HT10.out.2.trans (hb11.mono (by have := HT10.out.2.size; rw [HG.out] at this; exact this)); have hT11 := HT.out.below (w' := w11) (by rw [HG.out]; exact hb011))
        | (go_at_call 12; refine (rc.awake_any _ hT11).mono ?_; rintro e w13 ⟨rfl, hb13⟩)
        | fail)
      go_ret
      exact ⟨rfl, hb011.trans (hb13.mono (by have := hb011.size; rw [HG.out] at this; exact this))⟩
  · have hpr : putR N F P D I K S d l = ([], 100) := by unfold putR; rw [if_neg (by omega)]
    rw [hpr] at hput
    simp only at hput
    have HP2 := Lib.hid hput
    clear hput HPUT hpr HSM
    go_enter Tryd.func9, Tryd.ntmps9
    go_upto_region 1 with fail
    try rw [hW]
    try rw [hg1e]
    go_upto_region 8 with (first
      | (refine wpList_load_mid rfl 28 (.tmp 2) rfl g1 0 rfl NL _ hrg Tryd.underlying28 rfl hinf ?_; rw [HNA.out])
      | (go_at_call 24; refine (HP2.out).mono ?_; rintro e wQ ⟨A6, n6, d6, rfl, ho6, hb6⟩)
      | fail)
    have hb0Q : Below g1 w wQ := hb.trans (hb6.mono (Nat.le_of_lt hlt))
    have hq := HRB.out wQ hb0Q
    have hg1Q : g1 ≤ wQ.heap.size := by have := hb0Q.size; rw [HG.out] at this; exact this
    have hget2 := get_any A2 n2 c2 _ l2 wQ hq hg1Q (by omega)
    unfold GetPost at hget2
    have hok := getS_ok (l := l2)
    have htwo := getS_two l2
    obtain ⟨G, hG⟩ : ∃ z, getS l2 = z := ⟨_, rfl⟩
    simp only [hG] at hget2 hok htwo
    have HGET2 := Lib.hid hget2
    have hGd : G.d.length = 32 := by rcases htwo with h | h
                                     · exact (hok h).2.2.1
                                     · rw [h]; exact z32_len2
    have HOK := Lib.hid hok
    clear hget2 hok hq hG
    go_upto_region 9 with (first
      | (go_at_call 26; refine (HGET2.out).mono ?_; rintro e w9 ⟨A9, n9, d9, rfl, ho9, hb9⟩; have hsz9 : (noteL G.N G.F G.P G.D G.I G.K G.S G.d A9 n9 d9).toArray.size = 40 := (by rw [List.size_toArray]; exact noteL_len hGd); have hone9 : (noteL G.N G.F G.P G.D G.I G.K G.S G.d A9 n9 d9).toArray.all (·.oneCell') = true := all_oneCell_toArray noteL_one)
      | (refine wpList_store_mid rfl 28 (.tmp 9) (.tmp 45) rfl w9.heap.size 0 (noteL G.N G.F G.P G.D G.I G.K G.S G.d A9 n9 d9).toArray rfl rfl (by rw [hsz9]; exact hth w9) (by rw [hsz9]; exact info_note) hone9 ?_)
      | fail)
    show Code.wp _ _ _ _ ((w9.alloc (.cells noteZ.toArray 28)).setCells w9.heap.size 0 (noteL G.N G.F G.P G.D G.I G.K G.S G.d A9 n9 d9))
    have hba9 : Below w9.heap.size w9 (w9.alloc (.cells noteZ.toArray 28)) := (Below.refl _ _).alloc (Nat.le_refl _) _
    have hb10 : Below w9.heap.size w9 ((w9.alloc (.cells noteZ.toArray 28)).setCells w9.heap.size 0 (noteL G.N G.F G.P G.D G.I G.K G.S G.d A9 n9 d9)) := (keep_o (dg.Keep1.sets w9.heap.size (noteL G.N G.F G.P G.D G.I G.K G.S G.d A9 n9 d9) 0 (w9.alloc (.cells noteZ.toArray 28)))).below hba9 hba9.size (Nat.le_refl _)
    have hr10 := World.rangeAt_setCells_same (w9.alloc (.cells noteZ.toArray 28)) w9.heap.size 0 (noteL G.N G.F G.P G.D G.I G.K G.S G.d A9 n9 d9) (by rw [noteL_len hGd]; exact hth w9)
    have hs10 : w9.heap.size < ((w9.alloc (.cells noteZ.toArray 28)).setCells w9.heap.size 0 (noteL G.N G.F G.P G.D G.I G.K G.S G.d A9 n9 d9)).heap.size := by rw [dg.setCells_size]; simp
    have hi10 : (Tryd.prog.info? 28).map (·.size) = some (noteL G.N G.F G.P G.D G.I G.K G.S G.d A9 n9 d9).length := by rw [noteL_len hGd]; exact info_note
    obtain ⟨w10, hw10⟩ : ∃ z, (w9.alloc (.cells noteZ.toArray 28)).setCells w9.heap.size 0 (noteL G.N G.F G.P G.D G.I G.K G.S G.d A9 n9 d9) = z := ⟨_, rfl⟩
    rw [hw10] at hb10 hr10 hs10 ⊢
    have ho10 := ho9.below hb10 (Nat.le_refl _)
    have hb010 : Below g1 w w10 := hb0Q.trans ((hb9.trans (hb10.mono hb9.size)).mono hg1Q)
    have hx9 : G.x.length = n9 := by have := ho9.len; rw [bv_len] at this; exact this
    have hT10 := HT.out.below (w' := w10) (by rw [HG.out]; exact hb010)
    have HT10 := Lib.hid (And.intro hT10 hb010)
    obtain ⟨g9, hg9⟩ : ∃ z, w9.heap.size = z := ⟨_, rfl⟩
    rw [hg9] at hr10 hs10 ⊢
    try simp only [Act.put]
    clear hw10 hba9 hb10 hone9 hsz9 HGET2 hT10 hb9 hb010
    rcases htwo with he0 | hz
    · obtain ⟨q1, q2, q3, q4, q5, q6, q7, q8⟩ := HOK.out he0
      have hput2 := put_any G.N G.F G.P G.D G.I G.K G.S G.d hGd A9 n9 d9 _ G.x w10 ho10.rd (Nat.le_refl _) (by omega) ho10.cap.1 (by omega) (by omega) (by omega) q8
      have hpr2 : putR G.N G.F G.P G.D G.I G.K G.S G.d G.x = (l2, 0) := by unfold putR; rw [if_pos q2, q1]
      unfold MadeE at hput2
      rw [hpr2] at hput2
      simp only at hput2
      obtain ⟨L9, hL9⟩ : ∃ z, noteL G.N G.F G.P G.D G.I G.K G.S G.d A9 n9 d9 = z := ⟨_, rfl⟩
      rw [hL9] at hr10 hi10 hput2
      have HP10 := Lib.hid hput2
      have he0i : ((G.e : Nat) : Int) = 0 := by omega
      rw [he0i]
      clear hput2 hpr2 q1 q2 q8 hL9
      go_upto_region 12 with (first
        | (refine wpList_load_mid_g rfl 28 (.tmp 9) rfl g9 0 rfl L9 _ hr10 Tryd.underlying28 rfl hi10 ?_)
        | (go_at_call 24; refine (HP10.out).mono ?_; rintro e w11 ⟨A11, n11, d11, rfl, ho11, hb11⟩)
        | fail)
      have hb011 : Below g1 w w11 := HT10.out.2.trans (hb11.mono (by have := HT10.out.2.size; rw [HG.out] at this; exact this))
      have hg111 : g1 ≤ w11.heap.size := by have := hb011.size; rw [HG.out] at this; exact this
      have heq := oct.equal_any A11 A2 n11 d11 n2 c2 w11.heap.size l2 l2 w11 ho11.rd ((HRB.out w11 hb011).more hg111)
      rw [decide_eq_true rfl] at heq
      have HEQ := Lib.hid heq
      have hT11 := HT.out.below (w' := w11) (by rw [HG.out]; exact hb011)
      have HT11 := Lib.hid hT11
      clear heq hT11 ho11
      go_wp2_with (first
        | (go_at_call 21; refine (HEQ.out).mono ?_; rintro e w12 ⟨rfl, hw12⟩; subst hw12)
        | (go_at_call 12; refine (rc.awake_any _ HT11.out).mono ?_; rintro e w13 ⟨rfl, hb13⟩)
        | fail)
      go_ret
      exact ⟨rfl, hb011.trans (hb13.mono hg111)⟩
    · subst hz
      have hx0 : n9 = 0 := by rw [← hx9]; rfl
      subst hx0
      have hsm2 := refSameNote_any 0 0 0 0 0 0 0 z32 z32_len2 A9 none 0 d9 0 0 _ [] w10 ho10.rd (Rd.nil _ _ _) (Nat.le_refl _)
      have hL9 : noteL zeroG.N zeroG.F zeroG.P zeroG.D zeroG.I zeroG.K zeroG.S zeroG.d A9 0 d9 = noteL 0 0 0 0 0 0 0 z32 A9 0 d9 := rfl
      rw [hL9] at hr10 hi10
      obtain ⟨L9, hL9'⟩ : ∃ z, noteL 0 0 0 0 0 0 0 z32 A9 0 d9 = z := ⟨_, rfl⟩
      rw [hL9'] at hr10 hi10 hsm2
      rw [show noteL 0 0 0 0 0 0 0 z32 none 0 0 = noteZ from rfl] at hsm2
      obtain ⟨ZA, hZA⟩ : ∃ z, noteZ.toArray = z := ⟨_, rfl⟩
      rw [hZA] at hsm2
      simp only [hZA] at hbz
      have HS10 := Lib.hid hsm2
      have heE : ((zeroG.e : Nat) : Int) = 100 := rfl
      rw [heE]
      clear hsm2 hL9 hL9' hZA
      go_wp2_with (first
        | (refine wpList_load_mid_g rfl 28 (.tmp 9) rfl g9 0 rfl L9 _ hr10 Tryd.underlying28 rfl hi10 ?_)
        | (refine wp_build_g rfl _ _ rfl (.agg ZA) (by simp only [List.map_toArray, List.map_nil]; exact hbz _) ?_)
        | (go_at_call 28; refine (HS10.out).mono ?_; rintro e w11 ⟨rfl, hb11⟩; have hb011 : Below g1 w w11 := HT10.out.2.trans (hb11.mono (by have := HT10.out.2.size; rw [HG.out] at this; exact this)); have hT11 := HT.out.below (w' := w11) (by rw [HG.out]; exact hb011))
        | (go_at_call 12; refine (rc.awake_any _ hT11).mono ?_; rintro e w13 ⟨rfl, hb13⟩)
        | fail)
      go_ret
      exact ⟨rfl, hb011.trans (hb13.mono (by have := hb011.size; rw [HG.out] at this; exact this))⟩
end Go.Proofs.YtbcgnacfhpahkaaDoor.recordFormDone
namespace Go.Proofs.YtbcgnacfhpahkaaDoor.recordFormDone
open Go.ChangeShapes Go.WideShapes Go.ChangeAt Go.RowKit Mem OM LM DM dg rc
set_option linter.unusedVariables false
set_option maxRecDepth 100000
theorem contract (H : Type) (enc : TypeId × Value → H) (W : World) (base : Nat) (args : Array Value) (ds gs : List (DataW H)) (before : List MemPlace)
    (hval : ∀ (j : Nat) t v, Tryd.f9.params[j]? = some t → args[j]? = some v → Value.okWide Tryd.prog W .any base t v)
    (hW : DataW.Whole enc Tryd.prog Tryd.f9.params.toList Rows.recordFormSpec.vars false W args.toList ds gs before) (hL : laidMetH Tryd.prog Rows.recordFormRow.laid W) :
    Calls Tryd.prog 9 args W fun e W' => ∃ v, e = .returned v ∧ Rows.recordFormSpec.post enc Tryd.prog Tryd.f9 false true false false W args v W' := by
  have hW' := hW
  have hT : Tab W := table rfl hL
  obtain ⟨p, q, hA0, hV, rfl, hfz, hnd⟩ := hW
  have hA : DataW.TrodAll enc Tryd.prog W 0 (fun _ => true) true Tryd.f9.params.toList args.toList ds p := hA0
  rw [Tryd.params9] at hA hval
  obtain ⟨v0, vs0, d0, ds0, p0, q0, hargs, rfl, rfl, h0, r0⟩ := trodAll_cons hA
  obtain ⟨v1, vs1, d1, ds1, p1, q1, rfl, rfl, rfl, h1, r1⟩ := trodAll_cons r0
  obtain ⟨rfl, rfl, rfl⟩ := trodAll_nil r1
  obtain rfl : args = #[v0, v1] := by cases args; simp_all
  obtain ⟨rfl, rfl⟩ := trodVars_none hV
  have k0 := h0
  have lt0 : ∀ x ∈ p0, x.block < W.heap.size := by obtain ⟨m, hm⟩ := k0; exact DataW.trod_lt m _ _ _ hm
  obtain ⟨N0, F0, P0, D0, I0, K0, S0, d0x, l0, A0, n0, c0, rfl, hd0, w0, m0, b0, hK0, hS0, hN0, hF0, hP0, hD0, hI0⟩ := open_note (hval 0 28 v0 rfl rfl) h0
  obtain ⟨a1, n1, c1, rfl⟩ := okWide_slice Tryd.underlying24 (hval 1 24 v1 rfl rfl)
  have k1 := h1
  have lt1 : ∀ x ∈ p1, x.block < W.heap.size := by obtain ⟨m, hm⟩ := k1; exact DataW.trod_lt m _ _ _ hm
  obtain ⟨l1, w1, m1, b1⟩ : ∃ l : List UInt8, Rd W W.heap.size a1 n1 (bv l) ∧ n1 ≤ c1 ∧ n1 ≤ 9223372036854775807 := by
    obtain ⟨fuel, hf⟩ := h1
    rcases open_ints Tryd.underlying24 Tryd.underlying5 (by kernel_rfl) hf with ⟨hcs, _⟩ | ⟨x, l, c, zs, hcs, _, hl, hm, hz, _, hcell, hwz⟩
    · simp [Value.cells] at hcs
      obtain ⟨rfl, rfl, rfl⟩ := hcs
      exact ⟨[], Rd.nil _ _ _, Nat.le_refl _, by omega⟩
    · simp [Value.cells] at hcs
      obtain ⟨rfl, rfl, rfl⟩ := hcs
      unfold maxLen at hm
      obtain ⟨l, hl2⟩ := rd_bytes hl (by simpa using hz) hcell hwz
      exact ⟨l, hl2, hl, by omega⟩
  clear hA0 hval
  refine (walk N0 F0 P0 D0 I0 K0 S0 d0x l0 A0 n0 c0 a1 n1 c1 l1 W hT hd0 w0 m0 b0 hK0 hS0 hN0 hF0 hP0 hD0 hI0 w1 m1 b1).mono fun e W' ⟨he, bel⟩ => ?_
  subst he
  exact ⟨_, rfl, _, _, _, [], _, [], hW', trodAll_mk1 (shut_bool Tryd.underlying4 _), (trodAll_cons_mk (Below.trod laidOut (by kernel_rfl) (of_decide_eq_true (by kernel_rfl)) k0 bel lt0) (trodAll_cons_mk (Below.trod laidOut (by kernel_rfl) (of_decide_eq_true (by kernel_rfl)) k1 bel lt1) trodAll_mk0)), rfl, bel.frame _, fun h => by cases h⟩

theorem laid_met (os : Os) : laidMet Tryd.prog Rows.recordFormRow.laid ((laidWorld os).forCall (fun _ _ => 0) ⟨#[], #[.agg (noteL 0 0 0 0 0 0 0 z32 none 0 0).toArray, .slice none 0 0], []⟩).memory :=
  laidMet_of_run' 8 (by kernel_rfl) (by kernel_rfl)
theorem reads (os : Os) {H : Type} (enc : TypeId × Value → H) : ∃ places, DataW.whole enc Tryd.prog ((laidWorld os).forCall (fun _ _ => 0) ⟨#[], #[.agg (noteL 0 0 0 0 0 0 0 z32 none 0 0).toArray, .slice none 0 0], []⟩).memory Tryd.f9.params.toList Rows.recordFormSpec.vars false (#[.agg (noteL 0 0 0 0 0 0 0 z32 none 0 0).toArray, .slice none 0 0] : Array Value).toList 8 = some ([.agg [.lit (.int .i64 0), .lit (.int .i64 0), .lit (.int .i64 0), .lit (.int .i64 0), .lit (.int .i64 0), .agg [.lit (.int .i64 0), .lit (.int .i64 0), .agg (List.replicate 32 (.lit (.int .u8 0))), .nil]], .nil], [], places) :=
  ⟨[], by kernel_rfl⟩
set_option maxRecDepth 100000 in
theorem lifted (os : Os) (started : os.Started) (H : Type) (enc : TypeId × Value → H) (F : Stop.Interp) :
    ReturnsInHanded {} Tryd.checked os 9 .any ((OpenSpec.ofChange Rows.recordFormSpec).preRow enc Tryd.prog Tryd.f9 Rows.recordFormRow.domain false Rows.recordFormRow.laid) (((OpenSpec.ofChange Rows.recordFormSpec).at F).post enc Tryd.prog Tryd.f9 false true false false) := by
  obtain ⟨places, hx⟩ := reads os enc
  refine returnsInHanded_of_row (C := Tryd.checked) (s := OpenSpec.ofChange Rows.recordFormSpec) own started (by kernel_rfl) Tryd.func9
    (witness_row_at (enc := enc) (C := Tryd.checked) false (laidWorld os) #[.agg (noteL 0 0 0 0 0 0 0 z32 none 0 0).toArray, .slice none 0 0] rfl (by kernel_rfl) (by kernel_rfl) (by kernel_rfl)
      (OpenSpec.preRow_of_cond 8 hx (by kernel_rfl) (fun k hk => by cases hk) (by kernel_rfl) (laid_met os))) ?_
  intro W base args ds gs before hval hW _ _ _ hL _ _
  exact contract H enc W base args ds gs before hval hW hL
theorem said : Rows.RecordFormSaid :=
  OpenClaim.holds_of_cond 9 Tryd.f9 rfl rfl rfl rfl rfl rfl rfl ⟨rfl, rfl, rfl, rfl, rfl⟩ rfl rfl rfl rfl rfl (by kernel_rfl) Tryd.func9 (by kernel_rfl)
    (of_decide_eq_true (by kernel_rfl)) (by unfold Func.isWrapper; first | (rw [if_pos (by decide +kernel)]; kernel_rfl) | (rw [if_neg (by decide +kernel)]; exact ⟨rfl, rfl⟩))
    (fun os started H enc _ F => by rw [OpenClaim.pre_eq_preRow]; exact lifted os started H enc F)
theorem plain (f : FuncId) (fn : Func) (hf : Tryd.pinned.checked.prog.funcNamed "flume/flumelaw10.RecordForm" = some f) (hfn : Tryd.pinned.checked.prog.funcs[f]? = some fn) :
    false = Tryd.pinned.checked.prog.looks [] ∧ ∀ (j : Nat) t, fn.params[j]? = some t → Tryd.pinned.checked.prog.wantsStandIn t = false := by
  obtain rfl : f = 9 := Option.some.inj ((show Tryd.prog.funcNamed "flume/flumelaw10.RecordForm" = some 9 by kernel_rfl).symm.trans hf) |>.symm
  obtain rfl : fn = Tryd.f9 := (Option.some.inj (Tryd.func9.symm.trans hfn)).symm
  refine ⟨by kernel_rfl, fun j t ht => ?_⟩
  rw [Tryd.params9] at ht
  have hm : t ∈ [28, 24] := by simpa using Array.mem_of_getElem? ht
  have hall : ([28, 24].all fun u => !Tryd.prog.wantsStandIn u) = true := by kernel_rfl
  exact (show Tryd.prog.wantsStandIn t = false by simpa using List.all_eq_true.1 hall t hm)
/-- the given statement -/
theorem proved : Rows.RecordFormCardSaid :=
  Claim7.holds_tied_plain_at .later [] _ _ _ _ said (fun _ h => by cases h) (by kernel_rfl) (fun _ h => by cases h) recordForm_row_tie rfl ⟨rfl, rfl⟩ (by kernel_rfl) rfl plain (by kernel_rfl)
#print axioms proved
end Go.Proofs.YtbcgnacfhpahkaaDoor.recordFormDone
