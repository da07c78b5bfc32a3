/- DigestTwo: for every input the law answers true and leaves its arguments as they were; the table that the program lays is tied to its text. -/
import Derived.Test.YthfkldcfidehdaaDoorDgM
namespace Go.Proofs.YthfkldcfidehdaaDoor.digestTwoDone
open Go.RowKit Mem DM dg
theorem both2 {b : Nat} {l : List UInt8} {w5 : World} {D : Array Value} (hH : HashAt w5 b l) (hT : Tab w5) (hl : l.length ≤ 549755813888) (hD : (bv (digest l)).toArray = D) :
    ∀ w', Below w5.heap.size w5 w' → Calls Tryd.prog 18 #[.pointer (some ⟨b, 0, none⟩)] w' fun e w'' => e = .returned (.agg D) ∧ Below w5.heap.size w5 w'' := by
  subst hD
  exact fun w' hb => (sum_any b l w' (hH.below hb) (hT.below hb) hl).mono fun e w'' ⟨h1, h2⟩ => ⟨h1, hb.trans (h2.mono hb.size)⟩
theorem ofs {n c B : Nat} {A : Option Addr} {ls : List (List UInt8)} {w5 : World} {D : Array Value} (hp : Parts w5 B A n ls) (hB : B ≤ w5.heap.size) (hT : Tab w5) (hn : n ≤ 1099511627776) (hl : tot ls ≤ 549755813888) (hD : (bv (digest ls.flatten)).toArray = D) :
    ∀ w', Below w5.heap.size w5 w' → Calls Tryd.prog 11 #[.slice A n c] w' fun e w'' => e = .returned (.agg D) ∧ Below w5.heap.size w5 w'' := by
  subst hD
  exact fun w' hb => (of_any A n c w5.heap.size ls w' (hT.below hb) ((hp.more hB).below hb (Nat.le_refl _)) hb.size hn hl).mono fun e w'' ⟨h1, h2⟩ => ⟨h1, hb.trans (h2.mono hb.size)⟩
def cN (ls rs : List (List UInt8)) : Nat → Nat
  | 0 => 0
  | 1 => ls.length
  | _ => ls.length + rs.length
def tN (ls rs : List (List UInt8)) : Nat → Nat
  | 0 => 0
  | 1 => tot ls
  | _ => tot ls + tot rs
theorem take_all {ls : List (List UInt8)} {j : Nat} (h : ls.length ≤ j) : (ls.take (j + 1)).flatten = (ls.take j).flatten := by rw [List.take_of_length_le h, List.take_of_length_le (by omega)]
set_option maxRecDepth 100000 in
set_option maxHeartbeats 4000000 in
theorem walk (A : Option Addr) (n c : Nat) (ls : List (List UInt8)) (A1 : Option Addr) (m d : Nat) (rs : List (List UInt8)) (w : World) (hT : Tab w) (hp : Parts w w.heap.size A n ls) (_ : n ≤ c) (hn : n ≤ 9223372036854775807) (hx : ∀ l ∈ ls, l.length ≤ 9223372036854775807)
    (hp1 : Parts w w.heap.size A1 m rs) (_ : m ≤ d) (hm : m ≤ 9223372036854775807) (hx1 : ∀ l ∈ rs, l.length ≤ 9223372036854775807) :
    Calls Tryd.prog 8 #[.slice A n c, .slice A1 m d] w fun e w' => e = .returned (.bool true) ∧ Below w.heap.size w w' := by
  have Hl := Lib.hid hp.len
  have Hl1 := Lib.hid hp1.len
  have HX := Lib.hid (And.intro hx hx1)
  have HT := Lib.hid hT
  have HP := Lib.hid hp
  have HP1 := Lib.hid hp1
  obtain ⟨W, hW⟩ : ∃ W, W = w.alloc (.cells #[.slice A n c, .slice A1 m d] 31) := ⟨_, rfl⟩
  have hWB : Below w.heap.size w W := by rw [hW]; exact (Below.refl _ _).alloc (Nat.le_refl _) _
  have f0 : W.cell? ⟨w.heap.size, 0, none⟩ = some (.slice A n c) := by rw [hW]; go_simp
  have f1 : W.cell? ⟨w.heap.size, 1, none⟩ = some (.slice A1 m d) := by rw [hW]; go_simp
  have HW := Lib.hid hW
  have F0 := Lib.hid (And.intro f0 f1)
  have HWB := Lib.hid hWB
  clear hT hp hx hp1 hx1 hW f0 f1 hWB
  go_enter Tryd.func8, Tryd.ntmps8
  go_wp2_with fail
  rw [← HW.out]
  go_loop [5, 7, 8, 16] (fun s _ _ i => ∃ k S : Nat, s = .int .i64 S ∧ i = .int .i64 k ∧ k ≤ 2 ∧ S ≤ 16385 ∧ Hid (S ≤ 8192 → cN ls rs k ≤ S ∧ tN ls rs k ≤ S)) (fun _ _ _ i => 2 - (intOf i).toNat)
  case atStart => exact ⟨0, 0, rfl, rfl, by omega, by omega, (fun _ => ⟨Nat.le_refl _, Nat.le_refl _⟩ : 0 ≤ 8192 → cN ls rs 0 ≤ 0 ∧ tN ls rs 0 ≤ 0)⟩
  case round =>
    obtain ⟨i, S, rfl, rfl, hi, hS, HN⟩ := hrel
    by_cases hi2 : i < 2
    · obtain ⟨A2, n2, c2, xs, hcell, hp2, hx2, hn2, ec, et⟩ : ∃ A2 n2 c2 xs, W.cell? ⟨w.heap.size, i, none⟩ = some (.slice A2 n2 c2) ∧ Parts W w.heap.size A2 n2 xs ∧ (∀ l ∈ xs, l.length ≤ 9223372036854775807) ∧ n2 ≤ 9223372036854775807 ∧ cN ls rs (i + 1) = cN ls rs i + n2 ∧ tN ls rs (i + 1) = tN ls rs i + tot xs := by
        rcases Nat.eq_zero_or_pos i with e | e
        · subst e
          exact ⟨A, n, c, ls, F0.out.1, HP.out.below HWB.out (Nat.le_refl _), HX.out.1, hn, by simp [cN, Hl.out], by simp [tN]⟩
        · obtain rfl : i = 1 := by omega
          exact ⟨A1, m, d, rs, F0.out.2, HP1.out.below HWB.out (Nat.le_refl _), HX.out.2, hm, by simp [cN, Hl1.out], by simp [tN]⟩
      have H2 := Lib.hid (And.intro hp2 hx2)
      have hl2 := Lib.hid hp2.len
      have HEC := Lib.hid (And.intro ec et)
      have hii : (i : Int) < 2 := by omega
      clear hp2 hx2 ec et
      go_wp2_with fail
      go_loop [5, 8] (fun s q => ∃ k S : Nat, s = .int .i64 S ∧ q = .int .i64 k ∧ k ≤ n2 ∧ k ≤ 8193 ∧ S ≤ 16385 ∧ Hid (S ≤ 8192 → cN ls rs i + k ≤ S ∧ tN ls rs i + tot (xs.take k) ≤ S)) (fun _ q => n2 - (intOf q).toNat)
      case atStart => exact ⟨0, S, rfl, rfl, by omega, by omega, hS, (fun h => ⟨(HN.out h).1, by have := (HN.out h).2; simpa [tot] using this⟩ : S ≤ 8192 → cN ls rs i + 0 ≤ S ∧ tN ls rs i + tot (xs.take 0) ≤ S)⟩
      case round =>
        clear HN hS
        obtain ⟨k, S2, rfl, rfl, hk, hk2, hS2, HN⟩ := hrel
        by_cases hS1 : S2 ≤ 8192
        · obtain ⟨hkS, htS⟩ := HN.out hS1
          by_cases hlt : k < n2
          · obtain ⟨b, off, Ai, ni, ci, l, rfl, hbB, hcell2, hci, hri, ⟨hkl, hel⟩, hni⟩ := H2.out.1.at_ hlt
            have hlen : ni ≤ 9223372036854775807 := by rw [hni, ← hel]; exact H2.out.2 _ (List.getElem_mem hkl)
            have htk : tN ls rs i + tot (xs.take (k + 1)) ≤ S2 + ni := by rw [tot_take xs k hkl, hel, hni]; omega
            have HTK := Lib.hid htk
            have hkk : k ≤ 8192 := by omega
            have HKS := Lib.hid hkS
            have hlt' : (k : Int) < (n2 : Int) := by omega
            clear hni htk htS hkS
            by_cases hs : ni ≤ 8192
            · have hmin : min (ni : Int) 8192 = (ni : Int) := by omega
              go_wp2_with fail
              go_round
              case rel => exact ⟨k + 1, S2 + (1 + ni), by go_num, by go_num, by omega, by omega, by omega, (fun _ => ⟨by have := HKS.out; omega, by have := HTK.out; omega⟩ : S2 + (1 + ni) ≤ 8192 → cN ls rs i + (k + 1) ≤ S2 + (1 + ni) ∧ tN ls rs i + tot (xs.take (k + 1)) ≤ S2 + (1 + ni))⟩
              case measure => simp [intOf]; omega
            · have hmin : min (ni : Int) 8192 = 8192 := by omega
              go_wp2_with fail
              go_round
              case rel => exact ⟨k + 1, S2 + 8193, by go_num, by go_num, by omega, by omega, by omega, (fun h => by omega : S2 + 8193 ≤ 8192 → cN ls rs i + (k + 1) ≤ S2 + 8193 ∧ tN ls rs i + tot (xs.take (k + 1)) ≤ S2 + 8193)⟩
              case measure => simp [intOf]; omega
          · obtain rfl : k = n2 := by omega
            rw [List.take_of_length_le (by have := hl2.out; omega)] at htS
            have HF := Lib.hid (And.intro hkS htS)
            clear hkS htS
            go_wp2_with fail
            go_round
            case rel => exact ⟨i + 1, S2, rfl, by go_num, by omega, by omega, (fun _ => ⟨by rw [HEC.out.1]; exact HF.out.1, by rw [HEC.out.2]; exact HF.out.2⟩ : S2 ≤ 8192 → cN ls rs (i + 1) ≤ S2 ∧ tN ls rs (i + 1) ≤ S2)⟩
            case measure => simp [intOf]; omega
        · by_cases hlt : k < n2
          · go_wp2_with fail
            go_round
            case rel => exact ⟨i + 1, S2, rfl, by go_num, by omega, by omega, (fun h => absurd h hS1 : S2 ≤ 8192 → cN ls rs (i + 1) ≤ S2 ∧ tN ls rs (i + 1) ≤ S2)⟩
            case measure => simp [intOf]; omega
          · go_wp2_with fail
            go_round
            case rel => exact ⟨i + 1, S2, rfl, by go_num, by omega, by omega, (fun h => absurd h hS1 : S2 ≤ 8192 → cN ls rs (i + 1) ≤ S2 ∧ tN ls rs (i + 1) ≤ S2)⟩
            case measure => simp [intOf]; omega
    · obtain rfl : i = 2 := by omega
      have hTW := HT.out.below HWB.out
      by_cases hS1 : S ≤ 8192
      · obtain ⟨hc2, ht2⟩ := HN.out hS1
        have hc3 : n + m ≤ 8192 := by have h1 : ls.length + rs.length ≤ S := hc2; have := Hl.out; have := Hl1.out; omega
        have ht3 : tot ls + tot rs ≤ 8192 := by have h1 : tot ls + tot rs ≤ S := ht2; omega
        have HT3 := Lib.hid ht3
        have hpos := HT.out.pos
        obtain ⟨M, hM⟩ : ∃ M : Nat, M = max n m := ⟨_, rfl⟩
        have hmax : max (n : Int) (m : Int) = (M : Int) := by omega
        have HNEW := Lib.hid (new_any W hTW)
        have hWs := HWB.out.size
        clear hc2 ht2 ht3 HN
        go_wp2_with (go_at_call 16; refine HNEW.out.mono ?_; clear HNEW; rintro e w1 ⟨b1, rfl, hlb1, hH1, hb1⟩)
        have HN2 := Lib.hid (new_any w1 (hTW.below hb1))
        have HB1 := Lib.hid (And.intro hH1 hb1)
        have hlt1 := hH1.lt
        have hw1 := hb1.size
        clear hTW hH1 hb1
        go_wp2_with (go_at_call 16; refine HN2.out.mono ?_; clear HN2; rintro e w2 ⟨b2, rfl, hlb2, hH2, hb2⟩)
        have hlt2 := hH2.lt
        have hbw : Below w.heap.size w w2 := HWB.out.trans (HB1.out.2.mono hWs |>.trans (hb2.mono (by omega)))
        have HB2 := Lib.hid (And.intro (HB1.out.1.below hb2) (And.intro hH2 hbw))
        clear hH2 hb2 hbw HB1
        go_wp2_with fail
        go_loopw [11, 50] (fun _ q wr => ∃ j : Nat, q = .int .i64 j ∧ j ≤ M ∧ HashAt wr b1 (ls.take j).flatten ∧ HashAt wr b2 (rs.take j).flatten ∧ Below w.heap.size w wr) (fun _ q _ => M - (intOf q).toNat)
        case atStart => exact ⟨0, rfl, by omega, HB2.out.1, HB2.out.2.1, HB2.out.2.2⟩
        case round =>
          obtain ⟨j, rfl, hj, hH1, hH2, hbw⟩ := hrel
          have hTr := HT.out.below hbw
          have hps := HP.out.below hbw (Nat.le_refl _)
          have hps1 := HP1.out.below hbw (Nat.le_refl _)
          have hws := hbw.size
          by_cases hltM : j < M
          · have hjM : (j : Int) < (M : Int) := by omega
            have htf1 := tot_flat (ls.take j)
            have htl1 := tot_le ls j
            have htf2 := tot_flat (rs.take j)
            have htl2 := tot_le rs j
            have hts := HT3.out
            by_cases hl1 : j < n
            · by_cases hl2 : j < m
              · obtain ⟨pb1, po1, Bi, bi, bc, l1, rfl, hpb1, hcell1, hci1, hrl1, ⟨hkl1, hle1⟩, hni1⟩ := hps.at_ hl1
                have htk1 := tot_take ls j hkl1
                have htm1 := tot_le ls (j + 1)
                rw [hle1] at htk1
                have hfl1 : (ls.take (j + 1)).flatten = (ls.take j).flatten ++ l1 := by rw [← List.take_append_getElem hkl1, List.flatten_append, hle1]; simp
                have hw1' := write_any b1 (ls.take j).flatten l1 Bi bi bc wr hH1 hTr (by omega) (hrl1.more hws) hci1 (fun hp a ha => by
                  obtain ⟨b9, o9, e9, hlt9, _⟩ := hrl1.addr hp
                  rw [e9] at ha
                  injection ha with ha
                  subst ha
                  show b9 ≠ b1
                  omega) (by omega)
                rw [← hfl1] at hw1'
                have HW1 := Lib.hid hw1'
                have n1 : (j : Int) < (n : Int) := by omega
                clear hw1' hrl1 hle1 hfl1 hni1 htk1
                obtain ⟨pb2, po2, Ci, ki, kc, l2, rfl, hpb2, hcell2, hci2, hrl2, ⟨hkl2, hle2⟩, hni2⟩ := hps1.at_ hl2
                have htk2 := tot_take rs j hkl2
                have htm2 := tot_le rs (j + 1)
                rw [hle2] at htk2
                have hfl2 : (rs.take (j + 1)).flatten = (rs.take j).flatten ++ l2 := by rw [← List.take_append_getElem hkl2, List.flatten_append, hle2]; simp
                have hln2 : (rs.take j).flatten.length + l2.length ≤ 8192 := by omega
                have HR2 := Lib.hid (And.intro hrl2 hfl2)
                have n2 : (j : Int) < (m : Int) := by omega
                clear hrl2 hfl2 hle2 hni2 htk2
                have HH := Lib.hid (And.intro hH1 (And.intro hH2 (And.intro hbw hTr)))
                clear hH1 hH2 hbw hTr hps hps1 htf1 htf2 htl1 htl2 hts
                go_wp2_with (first
                  | (go_at_call 17; refine HW1.out.mono ?_; clear HW1; rintro e w3 ⟨rfl, hH3, hk3⟩; have hcell3 := ((hk3.below (Below.refl w.heap.size wr) hws (by omega)).cell (p := ⟨pb2, po2 + j, none⟩) hpb2).trans hcell2)
                  | fail)
                have hh2 := HH.out.2.1.keep hk3 (by omega)
                have hb3 := hk3.below HH.out.2.2.1 hws (by omega)
                have HB3 := Lib.hid (hk3.below (Below.refl w.heap.size wr) hws (by omega))
                have HK := Lib.hid (And.intro hH3 (And.intro hh2 hb3))
                have hw3 := hb3.size
                clear hH3 hh2 hb3 hk3
                have hw4 := write_any b2 (rs.take j).flatten l2 Ci ki kc w3 HK.out.2.1 (HT.out.below HK.out.2.2) (by omega) ((HR2.out.1.below HB3.out (Nat.le_refl _)).more hw3) hci2 (fun hp a ha => by
                  obtain ⟨b9, o9, e9, hlt9, _⟩ := HR2.out.1.addr hp
                  rw [e9] at ha
                  injection ha with ha
                  subst ha
                  show b9 ≠ b2
                  omega) (by omega)
                rw [← HR2.out.2] at hw4
                have HW4 := Lib.hid hw4
                clear hw4
                go_wp2_with (first
                  | (go_at_call 17; refine HW4.out.mono ?_; rintro e w4 ⟨rfl, hH4, hk4⟩)
                  | fail)
                go_roundw
                case rel => exact ⟨j + 1, by go_num, by omega, HK.out.1.keep hk4 (by omega), hH4, hk4.below HK.out.2.2 hw3 (by omega)⟩
                case measure => simp [intOf]; omega
              · obtain ⟨pb1, po1, Bi, bi, bc, l1, rfl, hpb1, hcell1, hci1, hrl1, ⟨hkl1, hle1⟩, hni1⟩ := hps.at_ hl1
                have htk1 := tot_take ls j hkl1
                have htm1 := tot_le ls (j + 1)
                rw [hle1] at htk1
                have hfl1 : (ls.take (j + 1)).flatten = (ls.take j).flatten ++ l1 := by rw [← List.take_append_getElem hkl1, List.flatten_append, hle1]; simp
                have hw1' := write_any b1 (ls.take j).flatten l1 Bi bi bc wr hH1 hTr (by omega) (hrl1.more hws) hci1 (fun hp a ha => by
                  obtain ⟨b9, o9, e9, hlt9, _⟩ := hrl1.addr hp
                  rw [e9] at ha
                  injection ha with ha
                  subst ha
                  show b9 ≠ b1
                  omega) (by omega)
                rw [← hfl1] at hw1'
                have HW1 := Lib.hid hw1'
                have n1 : (j : Int) < (n : Int) := by omega
                clear hw1' hrl1 hle1 hfl1 hni1 htk1
                have hfl2 := take_all (ls := rs) (j := j) (by have := Hl1.out; omega)
                have n2 : ¬ (j : Int) < (m : Int) := by omega
                have HFL2 := Lib.hid hfl2
                clear hfl2
                have HH := Lib.hid (And.intro hH1 (And.intro hH2 (And.intro hbw hTr)))
                clear hH1 hH2 hbw hTr hps hps1 htf1 htf2 htl1 htl2 hts
                go_wp2_with (first
                  | (go_at_call 17; refine HW1.out.mono ?_; clear HW1; rintro e w3 ⟨rfl, hH3, hk3⟩)
                  | fail)
                have hh2 := HH.out.2.1.keep hk3 (by omega)
                have hb3 := hk3.below HH.out.2.2.1 hws (by omega)
                have HB3 := Lib.hid (hk3.below (Below.refl w.heap.size wr) hws (by omega))
                have HK := Lib.hid (And.intro hH3 (And.intro hh2 hb3))
                have hw3 := hb3.size
                clear hH3 hh2 hb3 hk3
                go_wp2_with fail
                go_roundw
                case rel => exact ⟨j + 1, by go_num, by omega, HK.out.1, (by rw [HFL2.out]; exact HK.out.2.1), HK.out.2.2⟩
                case measure => simp [intOf]; omega
            · by_cases hl2 : j < m
              · have hfl1 := take_all (ls := ls) (j := j) (by have := Hl.out; omega)
                have n1 : ¬ (j : Int) < (n : Int) := by omega
                have HFL1 := Lib.hid hfl1
                clear hfl1
                obtain ⟨pb2, po2, Ci, ki, kc, l2, rfl, hpb2, hcell2, hci2, hrl2, ⟨hkl2, hle2⟩, hni2⟩ := hps1.at_ hl2
                have htk2 := tot_take rs j hkl2
                have htm2 := tot_le rs (j + 1)
                rw [hle2] at htk2
                have hfl2 : (rs.take (j + 1)).flatten = (rs.take j).flatten ++ l2 := by rw [← List.take_append_getElem hkl2, List.flatten_append, hle2]; simp
                have hln2 : (rs.take j).flatten.length + l2.length ≤ 8192 := by omega
                have HR2 := Lib.hid (And.intro hrl2 hfl2)
                have n2 : (j : Int) < (m : Int) := by omega
                clear hrl2 hfl2 hle2 hni2 htk2
                have HH := Lib.hid (And.intro hH1 (And.intro hH2 (And.intro hbw hTr)))
                clear hH1 hH2 hbw hTr hps hps1 htf1 htf2 htl1 htl2 hts
                have HK : Hid (HashAt wr b1 (ls.take (j + 1)).flatten ∧ HashAt wr b2 (rs.take j).flatten ∧ Below w.heap.size w wr) := Lib.hid ⟨by rw [HFL1.out]; exact HH.out.1, HH.out.2.1, HH.out.2.2.1⟩
                have HB3 := Lib.hid (Below.refl w.heap.size wr)
                have hw3 := hws
                have hw4 := write_any b2 (rs.take j).flatten l2 Ci ki kc wr HK.out.2.1 (HT.out.below HK.out.2.2) (by omega) ((HR2.out.1.below HB3.out (Nat.le_refl _)).more hw3) hci2 (fun hp a ha => by
                  obtain ⟨b9, o9, e9, hlt9, _⟩ := HR2.out.1.addr hp
                  rw [e9] at ha
                  injection ha with ha
                  subst ha
                  show b9 ≠ b2
                  omega) (by omega)
                rw [← HR2.out.2] at hw4
                have HW4 := Lib.hid hw4
                clear hw4
                go_wp2_with (first
                  | (go_at_call 17; refine HW4.out.mono ?_; rintro e w4 ⟨rfl, hH4, hk4⟩)
                  | fail)
                go_roundw
                case rel => exact ⟨j + 1, by go_num, by omega, HK.out.1.keep hk4 (by omega), hH4, hk4.below HK.out.2.2 hw3 (by omega)⟩
                case measure => simp [intOf]; omega
              · omega
          · obtain rfl : j = M := by omega
            rw [List.take_of_length_le (by have := Hl.out; omega)] at hH1
            rw [List.take_of_length_le (by have := Hl1.out; omega)] at hH2
            obtain ⟨D1, hD1⟩ : ∃ D, (bv (digest ls.flatten)).toArray = D := ⟨_, rfl⟩
            obtain ⟨D2, hD2⟩ : ∃ D, (bv (digest rs.flatten)).toArray = D := ⟨_, rfl⟩
            have heq1 : ∀ w : World, (binOp .eql 26 (.agg D1) (.agg D1)).run Tryd.prog w = .ok (.bool true) w := fun w => by
              rw [← hD1, sum_eql _ _ (digest_len _) (digest_len _) w, decide_eq_true rfl]
            have heq2 : ∀ w : World, (binOp .eql 26 (.agg D2) (.agg D2)).run Tryd.prog w = .ok (.bool true) w := fun w => by
              rw [← hD2, sum_eql _ _ (digest_len _) (digest_len _) w, decide_eq_true rfl]
            have hts := HT3.out
            have S1 := Lib.hid (both2 hH1 hTr (by rw [← tot_flat]; omega) hD1)
            have S2 := Lib.hid (both2 hH2 hTr (by rw [← tot_flat]; omega) hD2)
            have O1 := Lib.hid (ofs (c := c) hps hws hTr (by omega) (by omega) hD1)
            have O2 := Lib.hid (ofs (c := d) hps1 hws hTr (by omega) (by omega) hD2)
            have H5 := Lib.hid (And.intro hTr hbw)
            clear hH1 hH2 hTr hps hps1 hD1 hD2 hbw
            have hc := Below.refl wr.heap.size wr
            go_wp2_with (first
              | (go_at_call 18; refine (S1.out _ hc).mono ?_; clear hc S1; rintro e w6 ⟨rfl, hc⟩)
              | (go_at_call 18; refine (S2.out _ hc).mono ?_; clear hc S2; rintro e w6 ⟨rfl, hc⟩)
              | (go_at_call 11; refine (O1.out _ hc).mono ?_; clear hc O1; rintro e w7 ⟨rfl, hc⟩)
              | (go_at_call 11; refine (O2.out _ hc).mono ?_; clear hc O2; rintro e w7 ⟨rfl, hc⟩)
              | (go_at_call 9; refine (awake_any _ (H5.out.1.below hc)).mono ?_; rintro e w9 ⟨rfl, hb9⟩)
              | fail)
            go_ret
            exact ⟨rfl, H5.out.2.trans ((hc.mono H5.out.2.size).trans (hb9.mono (Nat.le_trans H5.out.2.size hc.size)))⟩
      · have HAW := Lib.hid (awake_any W hTW)
        clear hTW HN
        go_wp2_with (go_at_call 9; refine HAW.out.mono ?_; rintro e w1 ⟨rfl, hb1⟩)
        go_ret
        exact ⟨rfl, HWB.out.trans (hb1.mono HWB.out.size)⟩
end Go.Proofs.YthfkldcfidehdaaDoor.digestTwoDone
namespace Go.Proofs.YthfkldcfidehdaaDoor.digestTwoDone
open Go.ChangeShapes Go.WideShapes Go.ChangeAt Go.RowKit Mem DM dg
set_option linter.unusedVariables false
theorem contract (H : Type) (enc : TypeId × Value → H) (W : World) (base : Nat) (args : Array Value) (ds gs : List (DataW H)) (before : List MemPlace)
    (hval : ∀ (j : Nat) t v, Tryd.f8.params[j]? = some t → args[j]? = some v → Value.okWide Tryd.prog W .any base t v)
    (hW : DataW.Whole enc Tryd.prog Tryd.f8.params.toList Rows.digestTwoSpec.vars false W args.toList ds gs before) (hL : laidMetH Tryd.prog Rows.digestTwoRow.laid W) :
    Calls Tryd.prog 8 args W fun e W' => ∃ v, e = .returned v ∧ Rows.digestTwoSpec.post enc Tryd.prog Tryd.f8 false true false false W args v W' := by
  have hW' := hW
  have hT : Tab W := table rfl hL
  obtain ⟨p, q, hA0, hV, rfl, hfz, hnd⟩ := hW
  have hA : DataW.TrodAll enc Tryd.prog W 0 (fun _ => true) true Tryd.f8.params.toList args.toList ds p := hA0
  rw [Tryd.params8] at hA hval
  obtain ⟨v0, vs0, d0, ds0, p0, q0, hargs, rfl, rfl, h0, r0⟩ := trodAll_cons hA
  obtain ⟨v1, vs1, d1, ds1, p1, q1, rfl, rfl, rfl, h1, r1⟩ := trodAll_cons r0
  obtain ⟨rfl, rfl, rfl⟩ := trodAll_nil r1
  obtain rfl : args = #[v0, v1] := by cases args; simp_all
  obtain ⟨rfl, rfl⟩ := trodVars_none hV
  obtain ⟨a0, n0, c0, rfl⟩ := okWide_slice Tryd.underlying31 (hval 0 31 v0 rfl rfl)
  have k0 := h0
  have lt0 : ∀ x ∈ p0, x.block < W.heap.size := by obtain ⟨m, hm⟩ := k0; exact DataW.trod_lt m _ _ _ hm
  obtain ⟨l0, w0, x0, m0, b0⟩ : ∃ ls : List (List UInt8), Parts W W.heap.size a0 n0 ls ∧ (∀ l ∈ ls, l.length ≤ 9223372036854775807) ∧ n0 ≤ c0 ∧ n0 ≤ 9223372036854775807 := by
    obtain ⟨fuel, hf⟩ := h0
    rcases Deep.open_int_rows Tryd.underlying31 Tryd.underlying22 Tryd.underlying5 (by kernel_rfl) (by kernel_rfl) hf with ⟨hcs, _⟩ | ⟨x, l, c, A, L, C, Z, hcs, _, hl, hm, _, hrow⟩
    · simp [Value.cells] at hcs
      obtain ⟨rfl, rfl, rfl⟩ := hcs
      exact ⟨[], ⟨rfl, [], Rd.nil _ _ _, fun i hi => by simp at hi⟩, (fun _ h => by cases h), Nat.le_refl _, by omega⟩
    · simp [Value.cells] at hcs
      obtain ⟨rfl, rfl, rfl⟩ := hcs
      unfold maxLen at hm
      obtain ⟨ls, hl2, hx⟩ := parts_rows hl hrow
      exact ⟨ls, hl2, hx, hl, by omega⟩
  obtain ⟨a1, n1, c1, rfl⟩ := okWide_slice Tryd.underlying31 (hval 1 31 v1 rfl rfl)
  have k1 := h1
  have lt1 : ∀ x ∈ p1, x.block < W.heap.size := by obtain ⟨m, hm⟩ := k1; exact DataW.trod_lt m _ _ _ hm
  obtain ⟨l1, w1, x1, m1, b1⟩ : ∃ ls : List (List UInt8), Parts W W.heap.size a1 n1 ls ∧ (∀ l ∈ ls, l.length ≤ 9223372036854775807) ∧ n1 ≤ c1 ∧ n1 ≤ 9223372036854775807 := by
    obtain ⟨fuel, hf⟩ := h1
    rcases Deep.open_int_rows Tryd.underlying31 Tryd.underlying22 Tryd.underlying5 (by kernel_rfl) (by kernel_rfl) hf with ⟨hcs, _⟩ | ⟨x, l, c, A, L, C, Z, hcs, _, hl, hm, _, hrow⟩
    · simp [Value.cells] at hcs
      obtain ⟨rfl, rfl, rfl⟩ := hcs
      exact ⟨[], ⟨rfl, [], Rd.nil _ _ _, fun i hi => by simp at hi⟩, (fun _ h => by cases h), Nat.le_refl _, by omega⟩
    · simp [Value.cells] at hcs
      obtain ⟨rfl, rfl, rfl⟩ := hcs
      unfold maxLen at hm
      obtain ⟨ls, hl2, hx⟩ := parts_rows hl hrow
      exact ⟨ls, hl2, hx, hl, by omega⟩
  clear hA0 hval
  refine (walk a0 n0 c0 l0 a1 n1 c1 l1 W hT w0 m0 b0 x0 w1 m1 b1 x1).mono fun e W' ⟨he, bel⟩ => ?_
  subst he
  exact ⟨_, rfl, _, _, _, [], _, [], hW', trodAll_mk1 (shut_bool Tryd.underlying4 _), (trodAll_cons_mk (Below.trod laidOut (by kernel_rfl) (of_decide_eq_true (by kernel_rfl)) k0 bel lt0) (trodAll_cons_mk (Below.trod laidOut (by kernel_rfl) (of_decide_eq_true (by kernel_rfl)) k1 bel lt1) trodAll_mk0)), rfl, bel.frame _, fun h => by cases h⟩

theorem laid_met (os : Os) : laidMet Tryd.prog Rows.digestTwoRow.laid ((laidWorld os).forCall (fun _ _ => 0) ⟨#[], #[.slice none 0 0, .slice none 0 0], []⟩).memory :=
  laidMet_of_run' 8 (by kernel_rfl) (by kernel_rfl)
theorem reads (os : Os) {H : Type} (enc : TypeId × Value → H) : ∃ places, DataW.whole enc Tryd.prog ((laidWorld os).forCall (fun _ _ => 0) ⟨#[], #[.slice none 0 0, .slice none 0 0], []⟩).memory Tryd.f8.params.toList Rows.digestTwoSpec.vars false (#[.slice none 0 0, .slice none 0 0] : Array Value).toList 8 = some ([.nil, .nil], [], places) :=
  ⟨[], by kernel_rfl⟩
set_option maxRecDepth 100000 in
theorem lifted (os : Os) (started : os.Started) (H : Type) (enc : TypeId × Value → H) (F : Stop.Interp) :
    ReturnsInHanded {} Tryd.checked os 8 .any ((OpenSpec.ofChange Rows.digestTwoSpec).preRow enc Tryd.prog Tryd.f8 Rows.digestTwoRow.domain false Rows.digestTwoRow.laid) (((OpenSpec.ofChange Rows.digestTwoSpec).at F).post enc Tryd.prog Tryd.f8 false true false false) := by
  obtain ⟨places, hx⟩ := reads os enc
  refine returnsInHanded_of_row (C := Tryd.checked) (s := OpenSpec.ofChange Rows.digestTwoSpec) own started (by kernel_rfl) Tryd.func8
    (witness_row_at (enc := enc) (C := Tryd.checked) false (laidWorld os) #[.slice none 0 0, .slice none 0 0] rfl (by kernel_rfl) (by kernel_rfl) (by kernel_rfl)
      (OpenSpec.preRow_of_cond 8 hx (by kernel_rfl) (fun k hk => by cases hk) (by kernel_rfl) (laid_met os))) ?_
  intro W base args ds gs before hval hW _ _ _ hL _ _
  exact contract H enc W base args ds gs before hval hW hL
theorem said : Rows.DigestTwoSaid :=
  OpenClaim.holds_of_cond 8 Tryd.f8 rfl rfl rfl rfl rfl rfl rfl ⟨rfl, rfl, rfl, rfl, rfl⟩ rfl rfl rfl rfl rfl (by kernel_rfl) Tryd.func8 (by kernel_rfl)
    (of_decide_eq_true (by kernel_rfl)) (by unfold Func.isWrapper; first | (rw [if_pos (by decide +kernel)]; kernel_rfl) | (rw [if_neg (by decide +kernel)]; exact ⟨rfl, rfl⟩))
    (fun os started H enc _ F => by rw [OpenClaim.pre_eq_preRow]; exact lifted os started H enc F)
theorem plain (f : FuncId) (fn : Func) (hf : Tryd.pinned.checked.prog.funcNamed "flume/flumelaw08.DigestTwo" = some f) (hfn : Tryd.pinned.checked.prog.funcs[f]? = some fn) :
    false = Tryd.pinned.checked.prog.looks [] ∧ ∀ (j : Nat) t, fn.params[j]? = some t → Tryd.pinned.checked.prog.wantsStandIn t = false := by
  obtain rfl : f = 8 := Option.some.inj ((show Tryd.prog.funcNamed "flume/flumelaw08.DigestTwo" = some 8 by kernel_rfl).symm.trans hf) |>.symm
  obtain rfl : fn = Tryd.f8 := (Option.some.inj (Tryd.func8.symm.trans hfn)).symm
  refine ⟨by kernel_rfl, fun j t ht => ?_⟩
  rw [Tryd.params8] at ht
  have hm : t ∈ [31, 31] := by simpa using Array.mem_of_getElem? ht
  have hall : ([31, 31].all fun u => !Tryd.prog.wantsStandIn u) = true := by kernel_rfl
  exact (show Tryd.prog.wantsStandIn t = false by simpa using List.all_eq_true.1 hall t hm)
/-- the given statement -/
theorem proved : Rows.DigestTwoCardSaid :=
  Claim7.holds_tied_plain_at .later [] _ _ _ _ said (fun _ h => by cases h) (by kernel_rfl) (fun _ h => by cases h) digestTwo_row_tie rfl ⟨rfl, rfl⟩ (by kernel_rfl) rfl plain (by kernel_rfl)
#print axioms proved
end Go.Proofs.YthfkldcfidehdaaDoor.digestTwoDone
