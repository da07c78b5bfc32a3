/- lz's laws: bytes.Repeat of few bytes. -/
import Derived.Test.YtnikecjkaciplaaLzK
import Derived.Test.YtnikecjkaciplaaLzMath5
import Derived.Lib.SlBuf
import Derived.Lib.MakeNoZero
import Derived.Laws.Bits64b
namespace Go.Proofs.Ytnikecjkaciplaa.lz
open Go.RowKit Mem OM LM oct
set_option linter.unusedVariables false
attribute [local go_sem] Oper.semAt_some
theorem rep_add (l : List UInt8) : ∀ a b, rep l a ++ rep l b = rep l (a + b)
  | 0, b => by simp [rep]
  | a + 1, b => by rw [show a + 1 + b = (a + b) + 1 by omega]; simp only [rep, List.append_assoc]; rw [rep_add l a b]
theorem rep_take (l : List UInt8) : ∀ a j, (rep l a).take (j * l.length) = rep l (min a j)
  | 0, j => by simp [rep]
  | a + 1, 0 => by simp [rep]
  | a + 1, j + 1 => by
    rw [show min (a + 1) (j + 1) = min a j + 1 by omega]
    simp only [rep]
    rw [Nat.succ_mul, Nat.add_comm, List.take_append, List.take_of_length_le (by omega), Nat.add_sub_cancel_left, rep_take l a j]
section
variable {P : Program}
/-- a buffer's beginning again, behind what is filled -/
theorem copy_self (w0 wr : World) (h N : Nat) (acc : List UInt8) (t ty e : TypeId) (hu : P.underlying t = some (.slice e)) (hs : (P.info? e).map (·.size) = some 1) (hh : w0.heap.size ≤ h)
    (hb : Lib.Buf w0 wr h N acc) (hlt : acc.length < N) :
    ∃ wr', (Builtin.copy_ #[t, t] ty #[Lib.tailV h N acc.length, .slice (some ⟨h, 0, none⟩) acc.length N]).run P wr = .ok (.int .i64 ((min acc.length (N - acc.length) : Nat) : Int)) wr' ∧ Lib.Buf w0 wr' h N (acc ++ acc.take (N - acc.length)) := by
  have hne : ¬ N = acc.length := by omega
  obtain ⟨l, hl⟩ : ∃ l, acc.take (N - acc.length) = l := ⟨_, rfl⟩
  have hll : l.length = min (N - acc.length) acc.length := by rw [← hl, List.length_take]
  have hr := run_copy_cells (P := P) wr t t ty e h acc.length (N - acc.length) (N - acc.length) ⟨h, 0, none⟩ acc.length N (l.map fun x => Value.int .u8 (x.toNat : Int)) hu hs (by rw [List.length_map, hll]; exact Nat.min_comm _ _)
    (fun j u hj => by
      rw [List.getElem?_map] at hj
      obtain ⟨x, hx, rfl⟩ := Option.map_eq_some_iff.1 hj
      rw [← hl] at hx
      have hx2 : acc[j]? = some x := by
        rw [List.getElem?_take] at hx
        split at hx
        · exact hx
        · cases hx
      rw [Addr.add_lit, Nat.zero_add]
      exact hb.holds j x hx2)
    (fun j hj => by rw [List.length_map] at hj; exact hb.there _ (by omega)) (fun j hj => by rw [List.length_map] at hj; exact hb.free _ (by omega))
    (fun u hu' => by obtain ⟨x, _, rfl⟩ := List.mem_map.1 hu'; rfl)
  rw [List.length_map, hll, Nat.min_comm] at hr
  rw [hl]
  have hfit : acc.length + l.length ≤ N := by omega
  refine ⟨_, by unfold Lib.tailV; rw [if_neg hne]; exact hr, ?_⟩
  have hin := World.cell?_setCells_in h (l.map fun x => Value.int .u8 (x.toNat : Int)) acc.length wr (fun j hj => by rw [List.length_map] at hj; exact hb.there _ (by omega))
  have hout := World.cell?_setCells_out h (l.map fun x => Value.int .u8 (x.toNat : Int)) acc.length wr
  refine ⟨?_, ?_, ?_, ?_, by rw [List.length_append]; exact hfit⟩
  · exact Lib.below_setCells h (Nat.le_refl _) _ _ hb.below
  · intro j hj
    by_cases h1 : acc.length ≤ j ∧ j < acc.length + l.length
    · obtain ⟨d, rfl⟩ : ∃ d, j = acc.length + d := ⟨j - acc.length, by omega⟩
      rw [hin d (by rw [List.length_map]; omega)]
      rfl
    · rw [hout ⟨h, j, none⟩ (fun _ _ => by rw [List.length_map]; show j < _ ∨ _ ≤ j; omega)]
      exact hb.there j hj
  · intro j hj
    rw [World.frozen?_setCells]
    exact hb.free j hj
  · intro j x hx
    by_cases h1 : j < acc.length
    · rw [List.getElem?_append_left h1] at hx
      rw [hout ⟨h, j, none⟩ (fun _ _ => Or.inl h1)]
      exact hb.holds j x hx
    · rw [List.getElem?_append_right (by omega)] at hx
      obtain ⟨d, rfl⟩ : ∃ d, j = acc.length + d := ⟨j - acc.length, by omega⟩
      rw [Nat.add_sub_cancel_left] at hx
      have hd : d < l.length := (List.getElem?_eq_some_iff.1 hx).1
      rw [hin d (by rw [List.length_map]; exact hd)]
      simp [List.getElem_map, (List.getElem?_eq_some_iff.1 hx).2]
theorem buf_drew {w0 wr : World} {h N : Nat} {acc : List UInt8} (hb : Lib.Buf w0 wr h N acc) : Lib.Buf w0 wr.drew h N acc := ⟨below_drew hb.below, hb.there, hb.free, hb.holds, hb.fits⟩
/-- a copy as a step of a region that draws its order -/
theorem step_copy_run {w : World} {ops : Array Oper} {o : Oper} {a : Act} {K : Act → World → Prop} {Q : Exit → Act → World → Prop} {F : Prop} (hgd : o.guard = none) (d s : Operand) (t t' : TypeId)
    (ho : o.op = .call { callee := .builtin .copy, args := #[d, s], argTypes := #[t, t'] }) (v u : Value) (hd : a.eval d = v) (hs : a.eval s = u) {v' : Value} {w' : World}
    (hr : (Builtin.copy_ #[t, t'] o.type #[v, u]).run P w = .ok v' w') (h : K (a.put o.dst v') w') :
    if Region.wanted o (yielded ops a.tmps) = true then Oper.wp P o a w K Q else F := by
  have hw : Region.wanted o (yielded ops a.tmps) = true := by simp [Region.wanted, hgd]
  rw [if_pos hw]
  exact Lib.wp_copy_run w d s t t' ho v u hd hs hr h
end
theorem mul64_any (x y : Nat) (hx : x ≤ 60) (hy : y ≤ 19) (w : World) :
    Calls Try.prog 50 #[.int .u64 (x : Nat), .int .u64 (y : Nat)] w fun e w' => e = .returned (.tuple #[.int .u64 0, .int .u64 ((x * y : Nat) : Int)]) ∧ w' = w := by
  have hq : x * y ≤ 60 * 19 := Nat.mul_le_mul hx hy
  obtain ⟨q, hqe⟩ : ∃ q, x * y = q := ⟨_, rfl⟩
  rw [hqe] at hq ⊢
  have hm1 : bits .and .u64 (x : Int) 4294967295 = (x : Int) := by
    have h := bits_and_u64_nat x 4294967295 (by omega) (by omega)
    have e : x &&& 4294967295 = x % 4294967296 := Nat.and_two_pow_sub_one_eq_mod x 32
    rw [e, Nat.mod_eq_of_lt (by omega)] at h
    exact h
  have hm2 : bits .and .u64 (y : Int) 4294967295 = (y : Int) := by
    have h := bits_and_u64_nat y 4294967295 (by omega) (by omega)
    have e : y &&& 4294967295 = y % 4294967296 := Nat.and_two_pow_sub_one_eq_mod y 32
    rw [e, Nat.mod_eq_of_lt (by omega)] at h
    exact h
  have hd1 : (x : Int) / 4294967296 = 0 := by omega
  have hd2 : (y : Int) / 4294967296 = 0 := by omega
  have hd3 : (q : Int) / 4294967296 = 0 := by omega
  have hp : (x : Int) * (y : Int) = (q : Int) := by rw [← hqe]; exact (Int.natCast_mul x y).symm
  have hw : IntKind.u64.wrap (q : Int) = (q : Int) := by rw [IntKind.wrap_u64]; omega
  have hz : bits .and .u64 0 4294967295 = 0 := by decide
  clear hqe
  go_enter Try.func50, Try.ntmps50
  go_wp2_with fail
  try simp only [hm1, hm2, hd1, hd2, hp, hw, hd3, hz, Int.zero_mul, Int.mul_zero, Int.add_zero, Int.zero_add]
  go_ret2
  first | exact ⟨rfl, rfl⟩ | (simp [hm1, hm2, hd1, hd2, hp, hw, hd3, hz]; done)
theorem mul_any (x y : Nat) (hx : x ≤ 60) (hy : y ≤ 19) (w : World) :
    Calls Try.prog 35 #[.int .u64 (x : Nat), .int .u64 (y : Nat)] w fun e w' => e = .returned (.tuple #[.int .u64 0, .int .u64 ((x * y : Nat) : Int)]) ∧ w' = w := by
  have h := mul64_any x y hx hy w
  have H := Lib.hid h
  clear h
  go_enter Try.func35, Try.ntmps35
  go_wp2_with (go_at_call 50; refine H.out.mono ?_; rintro e w' ⟨rfl, hw⟩; rw [hw])
  go_ret2
  exact ⟨rfl, rfl⟩
theorem rd_of_buf {w0 wr : World} {h N : Nat} {acc : List UInt8} (hb : Lib.Buf w0 wr h N acc) (hN : acc.length = N) : Rd wr wr.heap.size (some ⟨h, 0, none⟩) N (bv acc) := by
  refine ⟨by rw [bv_len, hN], fun hp => ⟨h, 0, rfl, ?_, fun i hi => ?_⟩⟩
  · have := hb.there 0 hp
    obtain ⟨v, hv⟩ := Option.isSome_iff_exists.1 this
    exact cell_lt hv
  · rw [Nat.zero_add, bv_at acc i (by omega)]
    exact hb.holds i _ (by rw [List.getElem?_eq_getElem (by omega)])
def RepPost (l : List UInt8) (k : Nat) (w : World) (e : Ending) (w' : World) : Prop := ∃ A, e = .returned (.slice A (k * l.length) (k * l.length)) ∧ Rd w' w'.heap.size A (k * l.length) (bv (rep l k)) ∧ Below w.heap.size w w'
set_option maxRecDepth 50000 in
set_option maxHeartbeats 2000000 in
theorem repeat_any (A0 : Option Addr) (n c0 B0 : Nat) (l : List UInt8) (k : Nat) (w : World) (h : Rd w B0 A0 n (bv l)) (hB : B0 ≤ w.heap.size) (h3 : 3 ≤ n) (h60 : n ≤ 60) (hk : k ≤ 19) :
    Calls Try.prog 20 #[.slice A0 n c0, .int .i64 (k : Nat)] w (RepPost l k w) := by
  have hl : l.length = n := by rw [← h.len, bv_len]
  unfold RepPost
  rw [hl]
  by_cases hk0 : k = 0
  · subst hk0
    clear h
    go_enter Try.func20, Try.ntmps20
    go_wp2_with fail
    go_ret
    exact ⟨some ⟨w.heap.size, 0, none⟩, by rw [Nat.zero_mul]; rfl, by rw [Nat.zero_mul]; exact Rd.nil _ _ _, (Below.refl _ _).alloc (Nat.le_refl _) _⟩
  · have hmul := mul_any n k h60 hk
    have hq := Nat.mul_le_mul h60 hk
    have hq2 : 1 * n ≤ k * n := Nat.mul_le_mul_right n (by omega)
    obtain ⟨b1, o1, rfl, hb1, hc1⟩ := h.addr (by omega)
    have hhold : Lib.HoldsBytes w (.slice (some ⟨b1, o1, none⟩) l.length c0) l := ⟨_, _, rfl, by simp, fun a ha i x hx => by
      injection ha with ha
      subst ha
      have hi : i < l.length := (List.getElem?_eq_some_iff.1 hx).1
      rw [Addr.add_lit, hc1 i (by omega), bv_at l i hi, (List.getElem?_eq_some_iff.1 hx).2]⟩
    rw [Nat.mul_comm n k] at hmul
    obtain ⟨T, hT⟩ : ∃ T, k * n = T := ⟨_, rfl⟩
    rw [hT] at hmul hq2 ⊢
    rw [Nat.mul_comm 60 19, ← Nat.mul_comm k n, hT] at hq
    have HT := Lib.hid hT
    have HM := Lib.hid hmul
    have HL := Lib.hid hl
    obtain ⟨cs, hrunM, hle, _⟩ := Lib.run_makeNoZero (P := Try.prog) w #[3] 22 5 Try.underlying22 T (by omega)
    have hcall : (callFunc 36 #[.int .i64 (T : Int)]).run Try.prog w = .ok (.value (.slice (some ⟨w.heap.size, 0, none⟩) T cs.size)) ((w.alloc (.cells cs 5)).drewN 2) := by
      rw [run_callFunc_extern Try.func36 (by kernel_rfl) (by kernel_rfl) (by kernel_rfl) (e := Extern.BytealgMakeNoZero.makeNoZero #[3] #[22]) (by kernel_rfl), hrunM]
      rfl
    clear hrunM hT hmul
    have i1 : (T : Int) ≤ (cs.size : Int) := by omega
    have B0 := Lib.Buf.start w cs 5 T 2 hle
    obtain ⟨w1, hr1, B1⟩ := Lib.copy_part (P := Try.prog) w _ w.heap.size T [] l (.slice (some ⟨b1, o1, none⟩) l.length c0) 22 3 5 Try.underlying22 (by rfl) (Nat.le_refl _) B0 hhold (by simp; omega)
    rw [List.length_nil, Lib.tailV_zero, HL.out] at hr1
    rw [List.nil_append] at B1
    have hT0 : ¬ (T : Int) = 0 := by omega
    have hk1 : ¬ (k : Int) = 0 := by omega
    have hn1 : ¬ (n : Int) = 0 := by omega
    go_enter Try.func20, Try.ntmps20
    go_wp2_with (first
      | (go_at_call 35; refine (HM.out _).mono ?_; rintro e w' ⟨rfl, hw⟩; rw [hw])
      | (at_builtin; refine Lib.wpList_copy_run _ rfl _ _ 22 22 rfl _ _ rfl rfl hr1 ?_)
      | fail)
    have HB1 : Hid (Lib.Buf w w1 w.heap.size T (rep l 1)) := Lib.hid (by rw [rep, rep, List.append_nil]; exact B1)
    clear B1 B0 hr1 hcall hhold hc1 HM
    have hsz5 : ∀ w : World, (Go.sizeOf 5).run Try.prog w = .ok 1 w := fun w => (sizeOf_one (w := w) u8ty).2
    go_loopw [10] (fun b10 wx => ∃ q : Nat, b10 = .int .i64 ((q * n : Nat) : Int) ∧ 1 ≤ q ∧ q ≤ k ∧ Hid (Lib.Buf w wx w.heap.size T (rep l q))) (fun b10 _ => T - (intOf b10).toNat)
    case atStart => exact ⟨1, by rw [Nat.one_mul], Nat.le_refl _, by omega, HB1⟩
    case round =>
      clear HB1
      obtain ⟨q, rfl, hq1, hqk, HQ⟩ := hrel
      obtain ⟨F, hF⟩ : ∃ F, q * n = F := ⟨_, rfl⟩
      have hFl : (rep l q).length = F := by rw [rep_len, HL.out, hF]
      rw [hF]
      by_cases hlt : F < T
      · have hlti : (F : Int) < (T : Int) := by omega
        have hsl : ∀ W, (Instr.slice 22 (.slice (some ⟨w.heap.size, 0, none⟩) T T) (some (.int .i64 (F : Int))) none none).run Try.prog W = .ok (Lib.tailV w.heap.size T F) W := fun W => Lib.run_slice_tailV W 22 5 Try.underlying22 hsz5 _ T F (by omega)
        obtain ⟨w2, hr2, B2⟩ := copy_self (P := Try.prog) w _ w.heap.size T (rep l q) 22 3 5 Try.underlying22 (by rfl) (Nat.le_refl _) (buf_drew HQ.out) (by omega)
        rw [hFl] at hr2 B2
        have hFle : F ≤ T := by omega
        have hTv : Lib.tailV w.heap.size T F = .slice (some ⟨w.heap.size, F, none⟩) (T - F) (T - F) := by unfold Lib.tailV; rw [if_neg (by omega)]
        rw [hTv] at hr2
        simp only [hTv] at hsl
        clear hTv
        have hmin : min (F : Int) (T : Int) = (F : Int) := by omega
        have hqk2 : q < k := by
          rcases Nat.lt_or_ge q k with h | h
          · exact h
          · have := Nat.mul_le_mul_right n h
            have := HT.out
            omega
        have hTF : T - F = (k - q) * n := by rw [Nat.sub_mul, HT.out, hF]
        have hrt := rep_take l q (k - q)
        rw [HL.out, ← hTF] at hrt
        rw [hrt, rep_add] at B2
        have hmF : min F (T - F) = min q (k - q) * n := by
          rw [hTF, ← hF, Nat.mul_min_mul_right]
        rw [hmF] at hr2
        obtain ⟨m, hm⟩ : ∃ m, min q (k - q) = m := ⟨_, rfl⟩
        rw [hm] at hr2 B2
        obtain ⟨M, hM⟩ : ∃ M, m * n = M := ⟨_, rfl⟩
        have hM1 : n ≤ M := by
          have := Nat.mul_le_mul_right n (show 1 ≤ m by omega)
          omega
        have hFM : (q + m) * n = F + M := by rw [Nat.add_mul, hF, hM]
        rw [hM] at hr2
        have HB2 := Lib.hid (And.intro B2 hFM)
        have hFM3 : F + M ≤ T := by
          have h1 := Nat.mul_le_mul_right n (show q + m ≤ k by omega)
          have := HT.out
          omega
        have hwr : IntKind.i64.wrap ((F : Int) + (M : Int)) = (F : Int) + (M : Int) := by rw [IntKind.wrap_i64]; omega
        clear B2 hTF hrt hmF hFM hM hF
        go_wp2_with fail
        go_region_law (refine step_copy_run rfl (.tmp 70) (.tmp 73) 22 22 rfl (.slice (some ⟨w.heap.size, F, none⟩) (T - F) (T - F)) (.slice (some ⟨w.heap.size, 0, none⟩) F T) (by go_simp) (by go_simp) hr2 ?_)
        go_wp2_with fail
        go_simp
        go_roundw
        case rel => exact ⟨q + m, by rw [← Int.natCast_mul, HB2.out.2]; omega, by omega, by omega, Lib.hid HB2.out.1⟩
        case measure => simp only [intOf]; omega
      · have hlti : ¬ (F : Int) < (T : Int) := by omega
        have hqk3 : q = k := by
          rcases Nat.lt_or_ge q k with h | h
          · have h1 := Nat.mul_le_mul_right n (show q + 1 ≤ k by omega)
            have := HT.out
            rw [Nat.add_mul, hF] at h1
            omega
          · omega
        subst hqk3
        have hFT : F = T := by rw [← hF]; exact HT.out
        have HE := Lib.hid (And.intro (rd_of_buf HQ.out (by rw [hFl, hFT])) HQ.out.below)
        clear hF hFl
        go_wp2_with fail
        go_ret
        exact ⟨some ⟨w.heap.size, 0, none⟩, rfl, HE.out.1, HE.out.2⟩
end Go.Proofs.Ytnikecjkaciplaa.lz
