/- The examples of layer 1's laws come out true; which parts may be gone through. -/
import Derived.Test.YtkgfbehlcjjjnaaDoorSumB
import Derived.Test.YtkgfbehlcjjjnaaDoorSumMath2
import Derived.Lib.SlBytesConst
namespace Go.Proofs.YtkgfbehlcjjjnaaDoor.sum
open Go.RowKit Mem SM lib CM

theorem rd_alloc (w : World) (E : TypeId) (cs : List Value) (fr : Nat × Nat) : Rd (w.alloc (.cells cs.toArray E fr)) (w.heap.size + 1) (some ⟨w.heap.size, 0, none⟩) cs.length cs := by
  refine ⟨rfl, fun _ => ⟨_, 0, rfl, by omega, fun i hi => ?_⟩⟩
  have h : (w.alloc (.cells cs.toArray E fr)).heap[w.heap.size]? = some (.cells cs.toArray E fr) := by
    show (w.heap.push _)[w.heap.size]? = _
    simp
  unfold World.cell?
  rw [h]
  simp
theorem Parts.two {w : World} {B : Nat} {A1 A2 : Option Addr} {n c m d : Nat} {l r : List UInt8} (h1 : Rd w B A1 n (bv l)) (hc : n ≤ c) (h2 : Rd w B A2 m (bv r)) (hd : m ≤ d) (hB : B ≤ w.heap.size) (t : TypeId) :
    Parts (w.alloc (.cells #[.slice A1 n c, .slice A2 m d] t)) (w.heap.size + 1) (some ⟨w.heap.size, 0, none⟩) 2 [l, r] := by
  have hn : n = l.length := by rw [← h1.len, bv_len]
  have hm : m = r.length := by rw [← h2.len, bv_len]
  subst hn hm
  refine ⟨rfl, [.slice A1 l.length c, .slice A2 r.length d], rd_alloc w t [.slice A1 l.length c, .slice A2 r.length d] (0, 0), fun i hi => ?_⟩
  have hb : Below B w (w.alloc (.cells #[.slice A1 l.length c, .slice A2 r.length d] t)) := (Below.refl B w).alloc hB _
  match i, hi with
  | 0, _ => exact ⟨A1, c, rfl, hc, (h1.below hb (Nat.le_refl _)).more (Nat.le_trans hB (by omega))⟩
  | 1, _ => exact ⟨A2, d, rfl, hd, (h2.below hb (Nat.le_refl _)).more (Nat.le_trans hB (by omega))⟩

theorem awake_any (w : World) (ht : Tab w) :
    Calls Tryd.prog 15 #[] w fun e w' => e = .returned (.bool true) ∧ Below w.heap.size w w' := by
  have kc := fun (w : World) (C : Array Value) (n c : Nat) => Lib.run_convert_bytes_const (P := Tryd.prog) w 31 5 C n c Tryd.underlying31 Tryd.underlying5
  have hpos := ht.pos
  have HT := Lib.hid ht
  clear ht
  have e1 : ∀ w : World, (w.alloc (.cells #[Value.int .u8 49, .int .u8 50, .int .u8 51, .int .u8 52, .int .u8 53] 5 (5, 6))).heap.size = w.heap.size + 1 := fun w => by simp
  have kc2 : (convert 31 31 (.slice (some ⟨w.heap.size + 1, 0, none⟩) 4 4)).run Tryd.prog ((w.alloc (.cells #[Value.int .u8 49, .int .u8 50, .int .u8 51, .int .u8 52, .int .u8 53] 5 (5, 6))).alloc (.cells #[Value.int .u8 54, .int .u8 55, .int .u8 56, .int .u8 57] 5)) =
      .ok (.slice (some ⟨w.heap.size + 1, 0, none⟩) 4 4) ((w.alloc (.cells #[Value.int .u8 49, .int .u8 50, .int .u8 51, .int .u8 52, .int .u8 53] 5 (5, 6))).alloc (.cells #[Value.int .u8 54, .int .u8 55, .int .u8 56, .int .u8 57] 5 (4, 5))) := by
    have := kc (w.alloc (.cells #[Value.int .u8 49, .int .u8 50, .int .u8 51, .int .u8 52, .int .u8 53] 5 (5, 6))) #[Value.int .u8 54, .int .u8 55, .int .u8 56, .int .u8 57] 4 4
    rw [e1 w] at this
    exact this
  have hp : Parts (((w.alloc (.cells #[Value.int .u8 49, .int .u8 50, .int .u8 51, .int .u8 52, .int .u8 53] 5 (5, 6))).alloc (.cells #[Value.int .u8 54, .int .u8 55, .int .u8 56, .int .u8 57] 5 (4, 5))).alloc
      (.cells #[.slice (some ⟨w.heap.size, 0, none⟩) 5 5, .slice (some ⟨w.heap.size + 1, 0, none⟩) 4 4] 31)) (w.heap.size + 1 + 1 + 1) (some ⟨w.heap.size + 1 + 1, 0, none⟩) 2 [[49, 50, 51, 52, 53], [54, 55, 56, 57]] := by
    have g1 := rd_alloc w 5 (bv [49, 50, 51, 52, 53]) (5, 6)
    have g2 := rd_alloc (w.alloc (.cells (bv [49, 50, 51, 52, 53]).toArray 5 (5, 6))) 5 (bv [54, 55, 56, 57]) (4, 5)
    have g3 := g1.below (w' := (w.alloc (.cells (bv [49, 50, 51, 52, 53]).toArray 5 (5, 6))).alloc (.cells (bv [54, 55, 56, 57]).toArray 5 (4, 5))) ((Below.refl _ _).alloc (Nat.le_refl _) _) (by simp)
    simp at g2
    have g := Parts.two (n := 5) (c := 5) (m := 4) (d := 4) (l := [49, 50, 51, 52, 53]) (r := [54, 55, 56, 57]) (g3.more (by omega : w.heap.size + 1 ≤ w.heap.size + 1 + 1)) (Nat.le_refl _) g2 (Nat.le_refl _) (by simp) 31
    simp at g
    exact g
  have HP := Lib.hid hp
  clear hp e1
  go_enter Tryd.func15, Tryd.ntmps15
  go_wp2_with fail
  have hb1 : Below w.heap.size w (((w.alloc (.cells #[Value.int .u8 49, .int .u8 50, .int .u8 51, .int .u8 52, .int .u8 53] 5 (5, 6))).alloc (.cells #[Value.int .u8 54, .int .u8 55, .int .u8 56, .int .u8 57] 5 (4, 5))).alloc
      (.cells #[.slice (some ⟨w.heap.size, 0, none⟩) 5 5, .slice (some ⟨w.heap.size + 1, 0, none⟩) 4 4] 31)) :=
    (((Below.refl _ _).alloc (Nat.le_refl _) _).alloc (by simp) _).alloc (by simp; omega) _
  refine (crc_any _ _ _ _ _ _ HP.out (HT.out.below hb1 hpos) (by omega) (by decide)).mono ?_
  rintro e w1 ⟨rfl, hw⟩
  rw [hw] at hb1
  clear hw HP
  rw [show (crc [[49, 50, 51, 52, 53], [54, 55, 56, 57]].flatten).toNat = 3421780262 from by decide +kernel]
  have hl := (Ow.lit w1 5 (bv [0, 1, 242, 3, 244, 245, 246, 247]) (Nat.le_refl w1.heap.size) (by simp [maxLen, bv])).rd
  have hp2 : Parts ((w1.alloc (.cells #[Value.int .u8 0, .int .u8 1, .int .u8 242, .int .u8 3, .int .u8 244, .int .u8 245, .int .u8 246, .int .u8 247] 5)).alloc (.cells #[.slice (some ⟨w1.heap.size, 0, none⟩) 8 8] 31)) (w1.heap.size + 1 + 1) (some ⟨w1.heap.size + 1, 0, none⟩) 1 [[0, 1, 242, 3, 244, 245, 246, 247]] := by
    have g := Parts.one (n := 8) (c := 8) (l := [0, 1, 242, 3, 244, 245, 246, 247]) hl (Nat.le_refl _) (Nat.le_refl _) 31
    simp at g
    exact g
  have HP2 := Lib.hid hp2
  clear hp2 hl
  go_wp2_with fail
  have hb2 : Below w1.heap.size w1 ((w1.alloc (.cells #[Value.int .u8 0, .int .u8 1, .int .u8 242, .int .u8 3, .int .u8 244, .int .u8 245, .int .u8 246, .int .u8 247] 5)).alloc (.cells #[.slice (some ⟨w1.heap.size, 0, none⟩) 8 8] 31)) :=
    ((Below.refl _ _).alloc (Nat.le_refl _) _).alloc (by simp) _
  refine (inet_any _ _ _ _ _ _ HP2.out (by omega) (by decide)).mono ?_
  rintro e w2 ⟨rfl, q, rfl⟩
  rw [show inet [[0, 1, 242, 3, 244, 245, 246, 247]] = 8717 from by decide]
  go_wp2
  go_ret
  exact ⟨rfl, below_drewN (hb1.trans (hb2.mono hb1.size)) q⟩

def LightPost (n : Nat) (ls : List (List UInt8)) (w : World) (e : Ending) (w' : World) : Prop := ∃ b, e = .returned (.bool b) ∧ (b = true → n ≤ 1000 ∧ tot ls ≤ 65536) ∧ w = w'
theorem light_any (A : Option Addr) (n c B : Nat) (ls : List (List UInt8)) (w : World) (h : Parts w B A n ls) (hbig : ∀ l ∈ ls, l.length ≤ 9223372036854775807) (hn : n ≤ 9223372036854775807) :
    Calls Tryd.prog 14 #[.slice A n c] w (LightPost n ls w) := by
  have Hl := Lib.hid h.len
  have HB := Lib.hid hbig
  clear hbig
  go_enter Tryd.func14, Tryd.ntmps14
  go_wp2_with fail
  go_loop [3, 4] (fun s i => ∃ k N : Nat, s = .int .i64 N ∧ i = .int .i64 k ∧ k ≤ n ∧ k ≤ 1001 ∧ N ≤ 131073 ∧ Hid (N ≤ 65536 → tot (ls.take k) = N)) (fun _ i => n - (intOf i).toNat)
  case atStart => exact ⟨0, 0, rfl, rfl, by omega, by omega, by omega, (fun _ => by simp [tot] : 0 ≤ 65536 → tot (ls.take 0) = 0)⟩
  case round =>
    obtain ⟨k, N, rfl, rfl, hk, hk2, hN, HN⟩ := hrel
    by_cases hlt : k < n
    · by_cases hk1 : k ≤ 1000
      · by_cases hN1 : N ≤ 65536
        · obtain ⟨b, off, Ai, ni, ci, l, rfl, hbB, hcell, hci, hri, ⟨hkl, hel⟩, hni⟩ := h.at_ hlt
          have hlen : ni ≤ 9223372036854775807 := by rw [hni, ← hel]; exact HB.out _ (List.getElem_mem hkl)
          have htk : tot (ls.take (k + 1)) = N + ni := by rw [tot_take ls k hkl, HN.out hN1, hel, hni]
          have HT := Lib.hid htk
          have Hni := Lib.hid hni
          clear hni htk
          by_cases hs : ni ≤ 65537
          · go_wp2
            go_round
            case rel => exact ⟨k + 1, N + ni, by simp, by go_num, by omega, by omega, by omega, (fun _ => HT.out : N + ni ≤ 65536 → tot (ls.take (k + 1)) = N + ni)⟩
            case measure => simp [intOf]; omega
          · go_wp2
            go_round
            case rel => exact ⟨k + 1, N + 65537, by simp, by go_num, by omega, by omega, by omega, (fun h => by omega : N + 65537 ≤ 65536 → tot (ls.take (k + 1)) = N + 65537)⟩
            case measure => simp [intOf]; omega
        · have hd : decide ((N : Int) ≤ 65536) = false := by simp; omega
          by_cases hn1 : n ≤ 1000
          · go_wp2
            go_ret
            exact ⟨_, rfl, (fun hb => by simp at hb), rfl⟩
          · go_wp2
            go_ret
            exact ⟨_, rfl, (fun hb => by simp at hb), rfl⟩
      · have hd : decide ((n : Int) ≤ 1000) = false := by simp; omega
        go_wp2
        go_ret
        exact ⟨_, rfl, (fun hb => by simp at hb), rfl⟩
    · by_cases hn1 : n ≤ 1000
      · by_cases hN1 : N ≤ 65536
        · have ht : tot ls ≤ 65536 := by
            have := HN.out hN1
            rw [List.take_of_length_le (by have := Hl.out; omega)] at this
            omega
          have HT := Lib.hid ht
          clear ht
          go_wp2
          go_ret
          exact ⟨_, rfl, (fun _ => ⟨hn1, HT.out⟩), rfl⟩
        · have hd : decide ((N : Int) ≤ 65536) = false := by simp; omega
          go_wp2
          go_ret
          exact ⟨_, rfl, (fun hb => by simp at hb), rfl⟩
      · have hd : decide ((n : Int) ≤ 1000) = false := by simp; omega
        go_wp2
        go_ret
        exact ⟨_, rfl, (fun hb => by simp at hb), rfl⟩
end Go.Proofs.YtkgfbehlcjjjnaaDoor.sum
