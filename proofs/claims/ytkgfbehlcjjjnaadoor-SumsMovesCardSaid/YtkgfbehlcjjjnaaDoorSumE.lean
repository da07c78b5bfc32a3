/- Contracts of lay, Seal and Open, and of the document's. -/
import Derived.Test.YtkgfbehlcjjjnaaDoorSumC
namespace Go.Proofs.YtkgfbehlcjjjnaaDoor.sum
open Go.RowKit Mem SM lib CM

section
variable {P : Program} {w : World}
theorem step_copy {ops : Array Oper} {o : Oper} {a : Act} {K : Act → World → Prop} {Q : Exit → Act → World → Prop} {F : Prop} {T E : TypeId} {z : Value} {bytes : Nat} (ty : Ty1 P T E z bytes) (hgd : o.guard = none) (x y : Operand)
    (ho : o.op = .call { callee := .builtin .copy, args := #[x, y], argTypes := #[T, T] }) {base B : Nat} {g n c off : Nat} {xs : List Value} (hown : Ow w base E (some ⟨g, 0, none⟩) n c xs)
    {A2 : Option Addr} {m c2 : Nat} {ys : List Value} (hr : Rd w B A2 m ys) (h1 : ∀ u ∈ ys, u.oneCell' = true) {A : Option Addr} {d dc : Nat} (hx : a.eval x = .slice A d dc) (hy : a.eval y = .slice A2 m c2)
    (hA : 0 < d → A = some ⟨g, off, none⟩) (hoff : off + d ≤ n) (hm : m ≤ d) (hbase : base ≤ w.heap.size)
    (h : ∀ w', Ow w' base E (some ⟨g, 0, none⟩) n c (splice xs off ys) → Below base w w' → w.grownBy w' (some g) → K (a.put o.dst (goInt m)) w') :
    if Region.wanted o (yielded ops a.tmps) = true then Oper.wp P o a w K Q else F := by
  have hw : Region.wanted o (yielded ops a.tmps) = true := by simp [Region.wanted, hgd]
  rw [if_pos hw]
  obtain ⟨w', hrun, h2, h3⟩ := run_copy_ow (P := P) ty o.type hown (c2 := c2) hr h1 A d dc hA hoff hm
  unfold Oper.wp execOp
  simp only [ho, resolve, invoke, builtin, Sem.run_bind, Sem.run_pure, Result.andThen_ok, List.map_toArray, List.map_cons, List.map_nil, hx, hy, hrun]
  exact h w' h2 (below_of_grown h3 hbase fun k hk => by obtain rfl := Option.some.inj hk; exact (hown.blk_lt _ rfl).1) h3

end

/-- a great sum's four bytes, the lowest first -/
def le4 (c : BitVec 32) : List UInt8 := [UInt8.ofNat c.toNat, UInt8.ofNat (c.toNat / 256), UInt8.ofNat (c.toNat / 65536), UInt8.ofNat (c.toNat / 16777216)]
def vec (l : List UInt8) : Value := .agg (bv l).toArray

theorem byte_nat (y : Nat) : ((UInt8.ofNat y).toNat : Int) = (y : Int) % 256 := by
  rw [UInt8.toNat_ofNat']
  omega

theorem lay_any (c : BitVec 32) (w : World) :
    Calls Tryd.prog 35 #[.int .u32 (c.toNat : Int)] w fun e w' => e = .returned (vec (le4 c)) ∧ Below w.heap.size w w' := by
  obtain ⟨s, hs⟩ : ∃ s, s = c.toNat := ⟨_, rfl⟩
  have hlt : s < 4294967296 := by rw [hs]; exact c.isLt
  rw [← hs]
  have HS := Lib.hid hs
  clear hs
  go_enter Tryd.func35, Tryd.ntmps35
  go_wp2_with fail
  refine wp_loop_rounds 5 ?_
  rw [rounds_succ]
  go_wp2_with fail
  rw [rounds_succ]
  go_wp2_with fail
  rw [rounds_succ]
  go_wp2_with fail
  rw [rounds_succ]
  go_wp2_with fail
  rw [rounds_succ]
  go_wp2_with fail
  have hv : Value.agg #[.int .u8 ((s : Int) % 256), .int .u8 ((s : Int) / 256 % 256), .int .u8 ((s : Int) / 65536 % 256), .int .u8 ((s : Int) / 16777216)] = vec (le4 c) := by
    unfold vec le4 bv
    rw [← HS.out]
    simp only [List.map_cons, List.map_nil, byte_nat]
    rw [show ((s / 256 : Nat) : Int) = (s : Int) / 256 from by simp, show ((s / 65536 : Nat) : Int) = (s : Int) / 65536 from by simp, show ((s / 16777216 : Nat) : Int) = (s : Int) / 16777216 from by simp,
      show (s : Int) / 16777216 % 256 = (s : Int) / 16777216 from by omega]
  refine bodyPost_ret (v := .agg #[.int .u8 ((s : Int) % 256), .int .u8 ((s : Int) / 256 % 256), .int .u8 ((s : Int) / 65536 % 256), .int .u8 ((s : Int) / 16777216)]) (by simp [results, Tryd.results35, go_sem]) rfl ⟨by rw [hv], ?_⟩
  exact ((Below.refl _ _).alloc (Nat.le_refl _) _).alloc (by simp) _

theorem le4_four (c : BitVec 32) : ∃ b0 b1 b2 b3 : UInt8, le4 c = [b0, b1, b2, b3] := ⟨_, _, _, _, rfl⟩
theorem vec_four (b0 b1 b2 b3 : UInt8) : vec [b0, b1, b2, b3] = .agg #[.int .u8 (b0.toNat : Int), .int .u8 (b1.toNat : Int), .int .u8 (b2.toNat : Int), .int .u8 (b3.toNat : Int)] := rfl
theorem splice_tail (l t : List Value) (z : Value) (n N : Nat) (hl : l.length = n) (ht : t.length = 4) (hN : N = n + 4) : splice (splice (List.replicate N z) 0 l) n t = l ++ t := by
  subst hN
  have e : splice (List.replicate (n + 4) z) 0 l = l ++ List.replicate 4 z := by
    unfold splice
    rw [List.take_zero, List.nil_append, hl, Nat.zero_add, List.drop_replicate]
    simp
  rw [e]
  unfold splice
  rw [List.take_append_of_le_length (by omega), List.take_of_length_le (by omega), ht, List.drop_of_length_le (by simp; omega), List.append_nil]

theorem seal_any (A : Option Addr) (n c B : Nat) (l : List UInt8) (w : World) (h : Rd w B A n (bv l)) (hc : n ≤ c) (ht : Tab w) (hB : B ≤ w.heap.size) (hn : n ≤ 1048576) :
    Calls Tryd.prog 25 #[.slice A n c] w (Made w (l ++ le4 (crc l))) := by
  have Hl := Lib.hid h.len
  have HT := Lib.hid ht
  have hpos := ht.pos
  clear ht
  have hp : Parts (w.alloc (.cells #[.slice A n c] 31)) (w.heap.size + 1) (some ⟨w.heap.size, 0, none⟩) 1 [l] := Parts.one h hc hB _
  have HP := Lib.hid hp
  clear hp
  go_enter Tryd.func25, Tryd.ntmps25
  go_wp2_with fail
  refine (crc_any _ _ _ _ _ _ HP.out (HT.out.below ((Below.refl w.heap.size _).alloc (Nat.le_refl _) _) hpos) (by omega) (by have := Hl.out; rw [bv_len] at this; simp [tot]; omega)).mono ?_
  rintro e w1 ⟨rfl, hw⟩
  have hb1 : Below w.heap.size w w1 := by rw [← hw]; exact (Below.refl _ _).alloc (Nat.le_refl _) _
  clear hw HP
  rw [show [l].flatten = l from by simp]
  go_wp2_with fail
  refine (lay_any (crc l) _).mono ?_
  rintro e w2 ⟨rfl, hb2⟩
  have hb2' := hb1.trans (hb2.mono hb1.size)
  obtain ⟨b0, b1, b2, b3, hle⟩ := le4_four (crc l)
  rw [hle, vec_four]
  have HLE := Lib.hid hle
  have hsr : Rd (w2.alloc (.cells #[.int .u8 (b0.toNat : Int), .int .u8 (b1.toNat : Int), .int .u8 (b2.toNat : Int), .int .u8 (b3.toNat : Int)] 36)) (w2.heap.size + 1) (some ⟨w2.heap.size, 0, none⟩) 4 (bv [b0, b1, b2, b3]) := rd_alloc w2 36 (bv [b0, b1, b2, b3]) (0, 0)
  have hbs : Below w.heap.size w (w2.alloc (.cells #[.int .u8 (b0.toNat : Int), .int .u8 (b1.toNat : Int), .int .u8 (b2.toNat : Int), .int .u8 (b3.toNat : Int)] 36)) := hb2'.alloc hb2'.size _
  have hz2 := hb2'.size
  clear hle
  go_wp2_with (first
    | (refine wp_make u8ty rfl (.tmp 11) (.tmp 11) rfl rfl rfl (by omega) (by omega) (by omega) (by omega) (base := w2.heap.size + 1) (by simp) ?_; intro g N C w3 hN hC ho hb3 hg3 hgs; have hC2 : N = n + 4 := (by omega); have HN := Lib.hid hC2; have Hg := Lib.hid hgs; have hb3' := hbs.trans (hb3.mono (by omega)); have hNle : N ≤ 2097152 := (by omega); have hNn : n ≤ N := (by omega); clear hN hC hgs hC2)
    | (refine wp_copy u8ty rfl (.tmp 13) (.tmp 14) rfl (off := 0) ho (h.below hb3' hB) (bv_one l) rfl rfl (fun _ => rfl) (by omega) (by omega) (by have := hb3.size; simp at this; omega) ?_; intro w4 ho4 hb4 _; have hb4' := hb3'.trans (hb4.mono (by omega))))
  go_frame
  have hCn : ¬ C = n := by have := ho4.cap.1; have := HN.out; omega
  have hCn2 : (n : Int) ≤ (N : Int) := by omega
  go_region_law (refine step_copy u8ty rfl (.tmp 19) (.tmp 20) rfl (off := n) ho4.drew ((hsr.below hb3 (Nat.le_refl _)).below hb4 (Nat.le_refl _)).drew (bv_one _) rfl rfl (fun hp => by simp) (by have := HN.out; omega) (by have := HN.out; omega) (by have h9 := hb4.size; have h8 := hb3.size; simp at h8; show w2.heap.size + 1 ≤ w4.heap.size; omega) ?_; intro w6 ho6 hb6 _)
  go_wp2
  go_ret
  refine ⟨_, _, _, rfl, ?_, (hb4'.drew).trans (hb6.mono (by omega))⟩
  have e := splice_tail (bv l) (bv [b0, b1, b2, b3]) (.int .u8 0) n N Hl.out rfl HN.out
  rw [e, ← bv_app, ← HLE.out] at ho6
  exact ho6.base (by omega)
end Go.Proofs.YtkgfbehlcjjjnaaDoor.sum
