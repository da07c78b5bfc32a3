/- A row: a chunk is put in. -/
import Derived.Test.YtnmifaohmafobaaStG
import Derived.Deep.RegionHeld3
namespace Go.Proofs.Ytnmifaohmafobaa.st
open Go.RowKit Mem SM
open Go.Maps (Keyed)
set_option linter.unusedVariables false
variable {w w' : World}
theorem Ow.take {B : Nat} {E : TypeId} {A : Option Addr} {n c : Nat} {xs : List Value} (h : Ow w B E A n c xs) (m : Nat) (hm : m ≤ n) : Ow w B E A m c (xs.take m) := by
  have hl := h.len
  rcases h.2 with ⟨e, hx⟩ | ⟨g, cap, cur, e, hB, hg, h1, h2, hs, ht⟩
  · injection e with e1 e2 e3
    subst e1 e2 e3
    obtain rfl : m = 0 := by omega
    exact Ow.nil _ _ _
  · injection e with e1 e2 e3
    subst e1 e3
    refine ⟨by simp; omega, Or.inr ⟨g, c, cur, rfl, hB, hg, by omega, h2, hs, ?_⟩⟩
    rw [← ht, Nat.mul_one, Nat.mul_one, List.take_take, Nat.min_eq_left hm]
theorem bclone_any (A : Option Addr) (n c B : Nat) (l : List UInt8) (w : World) (h : Rd w B A n (bv l)) (hB : B ≤ w.heap.size) (hn : n ≤ 140737488351232) :
    Calls Try.prog 45 #[.slice A n c] w (lib.Made w l) := by
  have hnil := fun (a : Option Addr) => Lib.run_eql_slice_nil w _ _ a n c 0 0 Try.underlying32
  cases A with
  | none =>
    have h0 : l = [] := by
      rcases Nat.eq_zero_or_pos n with h0 | h0
      · exact List.eq_nil_of_length_eq_zero (by rw [← bv_len, h.len, h0])
      · obtain ⟨b, off, e, _⟩ := h.addr h0; cases e
    subst h0
    have Hh := Lib.hid h
    clear h
    go_enter Try.func45, Try.ntmps45
    go_wp2
    go_ret
    exact ⟨_, _, _, rfl, Ow.nil w _ _, Below.refl _ _⟩
  | some ad =>
    have hb : Below B w (w.alloc (.cells #[] 5)) := (Below.refl _ _).alloc hB _
    have h2 := h.below hb (Nat.le_refl _)
    have ho := Ow.lit w 5 [] (base := w.heap.size) (Nat.le_refl _) (by simp [maxLen])
    go_enter Try.func45, Try.ntmps45
    go_wp2_with (at_builtin; refine wp_app u8ty rfl (.tmp 5) (.tmp 6) rfl rfl rfl ho h2 (bv_one l) (by simp; omega) (by simp; omega) (by simp) ?_; intro A' N c' w1 ho1 _ hb1 _)
    go_ret
    exact ⟨_, _, _, rfl, by simpa using ho1, (Below.alloc (Below.refl _ _) (Nat.le_refl _) _).trans hb1⟩
theorem build_chunk32 (x0 x1 x2 x3 x4 x5 x6 x7 x8 x9 x10 x11 x12 x13 x14 x15 x16 x17 x18 x19 x20 x21 x22 x23 x24 x25 x26 x27 x28 x29 x30 x31 : UInt8) (A : Option Addr) (k c : Nat) (w : World) :
    (Instr.build 73 #[(0, .agg (bv [x0, x1, x2, x3, x4, x5, x6, x7, x8, x9, x10, x11, x12, x13, x14, x15, x16, x17, x18, x19, x20, x21, x22, x23, x24, x25, x26, x27, x28, x29, x30, x31]).toArray), (1, .slice A k c)]).run Try.prog w = .ok (.agg (ckL ⟨[x0, x1, x2, x3, x4, x5, x6, x7, x8, x9, x10, x11, x12, x13, x14, x15, x16, x17, x18, x19, x20, x21, x22, x23, x24, x25, x26, x27, x28, x29, x30, x31], [], 0⟩ ⟨A, k, c⟩ 0 0).toArray) w := by kernel_rfl
theorem build_chunk (s : List UInt8) (hs : s.length = 32) (A : Option Addr) (k c : Nat) (w : World) :
    (Instr.build 73 #[(0, .agg (bv s).toArray), (1, .slice A k c)]).run Try.prog w = .ok (.agg (ckL ⟨s, [], 0⟩ ⟨A, k, c⟩ 0 0).toArray) w := by
  match s, hs with
  | [x0, x1, x2, x3, x4, x5, x6, x7, x8, x9, x10, x11, x12, x13, x14, x15, x16, x17, x18, x19, x20, x21, x22, x23, x24, x25, x26, x27, x28, x29, x30, x31], _ => exact build_chunk32 x0 x1 x2 x3 x4 x5 x6 x7 x8 x9 x10 x11 x12 x13 x14 x15 x16 x17 x18 x19 x20 x21 x22 x23 x24 x25 x26 x27 x28 x29 x30 x31 A k c w
section
variable {O : Nat → Prop} {r g M mb fc S : Nat} {FA : Option Addr} {E : Nat → Ent} {D : Nat → Sl} {ns fs ms : List Nat} {sf : Nat → List UInt8} {ah bh : Nat → Nat}
theorem yieldsIf_build {P : Program} {ops : Array Oper} {S : World → Prop} {op : Oper} {a : Act} (hw : Region.wanted op (yielded ops a.tmps) = true) (t : TypeId) (parts : Array (Nat × Operand)) (ho : op.op = .build t parts) (v : Value) (vs : Array (Nat × Value)) (hvs : (parts.map fun (i, x) => (i, a.eval x)) = vs)
    (hrun : ∀ w, (Instr.build t vs).run P w = .ok v w) : YieldsIf P ops S op v a :=
  .inl ⟨hw, fun w _ => by
    unfold execOp
    simp only [ho, Sem.run_bind, hvs, Result.andThen_ok, hrun]
    rfl⟩
theorem ck_one (e : Ent) (d : Sl) (a b : Nat) : ∀ v ∈ ckL e d a b, v.oneCell' = true := by
  unfold ckL
  intro v hv
  rcases List.mem_append.1 hv with hv | hv
  · exact bv_one _ v hv
  · simp at hv; rcases hv with rfl | rfl | rfl | rfl <;> rfl
theorem there_below {w w' : World} {b o n B : Nat} (h : w.there b o n) (hb : Below B w w') (hB : b < B) : w'.there b o n := fun j hj => ⟨by rw [hb.cell (p := ⟨b, o + j, none⟩) hB]; exact (h j hj).1, by rw [hb.frozen (p := ⟨b, o + j, none⟩) hB]; exact (h j hj).2⟩
/-- what a world keeps while chunk n is made and laid down -/
structure Mid (w w' : World) (g n : Nat) : Prop where
  kept : Kept w w' (fun k => k = g ∨ w.heap.size ≤ k)
  out : ∀ o, (o < n * 36 ∨ n * 36 + 36 ≤ o) → w'.cell? ⟨g, o, none⟩ = w.cell? ⟨g, o, none⟩
  fz : ∀ o, w'.frozen? ⟨g, o, none⟩ = w.frozen? ⟨g, o, none⟩
theorem Mid.drew {w : World} {g n : Nat} : Mid w w.drew g n := ⟨Kept.drew _ _, fun _ _ => rfl, fun _ => rfl⟩
theorem Mid.below {w w1 w2 : World} {g n : Nat} (h : Mid w w1 g n) (hb : Below w1.heap.size w1 w2) (hg : g < w.heap.size) : Mid w w2 g n :=
  ⟨(h.kept.or (Kept.ofBelow hb)).more (fun i hi e => e.elim id (fun e => Or.inr (Nat.le_trans h.kept.size e))), fun o ho => (hb.cell (p := ⟨g, o, none⟩) (Nat.lt_of_lt_of_le hg h.kept.size)).trans (h.out o ho), fun o => (hb.frozen (p := ⟨g, o, none⟩) (Nat.lt_of_lt_of_le hg h.kept.size)).trans (h.fz o)⟩
theorem Mid.set {w w1 : World} {g n : Nat} (h : Mid w w1 g n) (vs : List Value) (hv : vs.length = 36) : Mid w (w1.setCells g (n * 36) vs) g n :=
  ⟨(h.kept.or (kept_setCells g vs (n * 36) w1)).more (fun i _ e => e.elim id Or.inl), fun o ho => (setCells_out _ _ _ _ (by rw [hv]; exact ho)).trans (h.out o ho), fun o => (World.frozen?_setCells _ _ _ _ _).trans (h.fz o)⟩
theorem RowG.setE2 (h : RowG w O r g M mb FA fc E D fs S ms sf ah bh) (n : Nat) (hn : n ≤ M) (k : Mid w w' g n) (e : Ent) (d : Sl) (a b : Nat) (hr : w'.rangeAt g (n * 36) (ckL e d a b)) (hs : e.sum.length = 32) (hdc : d.n ≤ d.c) (hdr : Rd w' w'.heap.size d.a d.n (bv e.data)) (hda : ∀ i, blk d.a = some i → (O i ∨ w.heap.size ≤ i) ∧ i ≠ r ∧ i ≠ g ∧ i ≠ mb ∧ blk FA ≠ some i ∧ i < w'.heap.size) (hdm : e.data.length ≤ 8192) :
    RowG w' (fun i => O i ∨ w.heap.size ≤ i) r g M mb FA fc (updE E n e) (updE D n d) fs S ms sf (upd ah n a) (upd bh n b) := by
  obtain ⟨l1, l2, l3⟩ := h.lt
  have hcl := ckL_len e d a b hs
  obtain ⟨k32, k33, k34, k35, kj⟩ := ckL_at e d a b hs
  have hne := h.link.ne
  have K := k.kept
  have nr : ¬ (r = g ∨ w.heap.size ≤ r) := fun e => e.elim hne (fun e => Nat.not_lt.2 e l1)
  have nm : ¬ (mb = g ∨ w.heap.size ≤ mb) := fun e => e.elim h.mr.2 (fun e => Nat.not_lt.2 e l3)
  have hfl : ∀ i, blk FA = some i → ¬ (i = g ∨ w.heap.size ≤ i) := fun i hi e => e.elim (h.fb i hi).2.2.1 (fun e => Nat.not_lt.2 e (h.fo.blk_lt i hi).2)
  refine ⟨⟨?_, fun m hm => ?_, fun m hm => ?_, fun o => by rw [k.fz]; exact h.link.gz o, hne⟩, fun m hm j v hv => ?_, fun m hm => ?_, fun m hm => ?_, fun m hm => ?_, fun m hm => ?_, fun m hm i hi => ?_, fun m hm => ?_, ?_, K.ow h.fo hfl, fun i hi => ⟨Or.inl (h.fb i hi).1, (h.fb i hi).2⟩, ?_, K.map h.mp nm, ?_, fun o => ?_, ⟨Or.inl h.ors.1, Or.inl h.ors.2.1, Or.inl h.ors.2.2⟩, h.mr, h.mle, fun m hm => ?_⟩
  · rw [K.cell (a := ⟨r, 0, none⟩) l1 nr]; exact h.link.c0
  · by_cases e1 : m = n
    · subst e1; rw [upd_same]; exact hr 34 _ k34
    · rw [upd_other _ _ e1, k.out _ (by omega)]; exact h.link.ah m hm
  · by_cases e1 : m = n
    · subst e1; rw [upd_same]; exact hr 35 _ k35
    · rw [upd_other _ _ e1, k.out _ (by omega)]; exact h.link.bh m hm
  · by_cases e1 : m = n
    · subst e1
      rw [updE_same] at hv
      have hj : j < 32 := by
        have h1 := (List.getElem?_eq_some_iff.1 hv).1
        rw [bv_len, hs] at h1; exact h1
      exact hr j _ ((kj j hj).trans hv)
    · rw [updE_other _ _ e1] at hv
      have hj : j < 32 := by
        have h1 := (List.getElem?_eq_some_iff.1 hv).1
        rw [bv_len, h.len m hm] at h1; exact h1
      rw [k.out _ (by omega)]; exact h.sm m hm j v hv
  · by_cases e1 : m = n
    · subst e1; rw [updE_same]; exact hs
    · rw [updE_other _ _ e1]; exact h.len m hm
  · by_cases e1 : m = n
    · subst e1; rw [updE_same]; exact hr 32 _ k32
    · rw [updE_other _ _ e1, k.out _ (by omega)]; exact h.dc m hm
  · by_cases e1 : m = n
    · subst e1; rw [updE_same]; exact hdc
    · rw [updE_other _ _ e1]; exact h.dn m hm
  · by_cases e1 : m = n
    · subst e1; rw [updE_same, updE_same]; exact hdr
    · rw [updE_other _ _ e1, updE_other _ _ e1]
      exact (K.rd (h.dr m hm) (Nat.le_refl _) (fun i hi hlt e => e.elim (h.da m hm i hi).2.2.1 (fun e => Nat.not_lt.2 e hlt))).more K.size
  · by_cases e1 : m = n
    · subst e1; rw [updE_same] at hi; exact hda i hi
    · rw [updE_other _ _ e1] at hi
      obtain ⟨a1, a2, a3, a4, a5, a6⟩ := h.da m hm i hi
      exact ⟨Or.inl a1, a2, a3, a4, a5, Nat.lt_of_lt_of_le a6 K.size⟩
  · by_cases e1 : m = n
    · subst e1; rw [updE_same]; exact hr 33 _ k33
    · rw [updE_other _ _ e1, k.out _ (by omega)]; exact h.hd m hm
  · rw [K.cell (a := ⟨r, 1, none⟩) l1 nr]; exact h.c1
  · rw [K.cell (a := ⟨r, 2, none⟩) l1 nr]; exact h.c2
  · rw [K.cell (a := ⟨r, 3, none⟩) l1 nr]; exact h.c3
  · rw [K.frozen (a := ⟨r, o, none⟩) l1 nr]; exact h.rz o
  · by_cases e1 : m = n
    · subst e1; rw [updE_same]; exact hdm
    · rw [updE_other _ _ e1]; exact h.dm m hm
/-- what add leaves -/
def AddPost (O : Nat → Prop) (r g M mb : Nat) (E : Nat → Ent) (D : Nat → Sl) (ns fs : List Nat) (n : Nat) (sm data : List UInt8) (w : World) (e : Ending) (w' : World) : Prop :=
  e = .returned (.tuple #[]) ∧ ∃ FA' fc' d, RowB w' (fun i => O i ∨ w.heap.size ≤ i) r g M mb FA' fc' (updE E n ⟨sm, data, 0⟩) (updE D n d) (ns ++ [n]) fs ∧ Kept w w' O ∧ ∀ i, blk d.a = some i → w.heap.size ≤ i
set_option maxRecDepth 100000 in
set_option maxHeartbeats 4000000 in
theorem add_any (n : Nat) (sm data : List UInt8) (A : Option Addr) (k c B : Nat) (w : World) (h : RowB w O r g M mb FA fc E D ns (fs ++ [n])) (hs : sm.length = 32) (hd : Rd w B A k (bv data)) (hdo : ∀ i, blk A = some i → i < B → ¬ O i) (hB : B ≤ w.heap.size) (hk : k ≤ 8192) (hT : total (ns.map E) + k ≤ 8192) (hno : ∀ m ∈ ns, (E m).sum ≠ sm) :
    Calls Try.prog 51 #[.pointer (some ⟨r, 0, none⟩), .agg (bv sm).toArray, .slice A k c] w (AddPost O r g M mb E D ns fs n sm data w) := by
  have hb0 : Below w.heap.size w (w.alloc (.cells (bv sm).toArray 40)) := (Below.refl _ _).alloc (Nat.le_refl _) _
  have h1 := h.below hb0
  have hbx := sum_there w sm 40
  obtain ⟨h1n, hnM⟩ := h.mem (Or.inr (List.mem_append_right _ (List.mem_cons_self (a := n) (l := []))))
  have hM := h.mle.2
  have hcnt := h.count
  have hfl : fs.length < 64 := by simp at hcnt; omega
  obtain ⟨ah, bh, hc, hG⟩ := h1.toG
  have hW0 := h.lt
  have hboxlt : w.heap.size < (w.alloc (.cells (bv sm).toArray 40)).heap.size := by simp
  have hbuild := build_chunk sm hs
  have hkey := key_of sm hs
  have hxl : (bv sm).length = 32 := by rw [bv_len]; exact hs
  have HH := Lib.hid h
  have HS := Lib.hid hs
  have HNO := Lib.hid hno
  have HC := Lib.hid hc
  clear h h1 hno hc hcnt
  obtain ⟨CKf, hCKf⟩ : ∃ f : Option Addr → Nat → Nat → List Value, ∀ A k c, ckL ⟨sm, [], 0⟩ ⟨A, k, c⟩ 0 0 = f A k c := ⟨_, fun _ _ _ => rfl⟩
  simp only [hCKf] at hbuild
  have HCKF := Lib.hid hCKf
  obtain ⟨XS, hXS⟩ : ∃ XS, bv sm = XS := ⟨_, rfl⟩
  rw [hXS] at hb0 hG hbx hbuild hkey hxl hboxlt ⊢
  have hHI : (Try.prog.info? 40).map (·.size) = some XS.length := by rw [hxl]; exact info_sum
  obtain ⟨XA, hXA⟩ : ∃ XA, XS.toArray = XA := ⟨_, rfl⟩
  have HXA := Lib.hid hXA
  rw [hXA] at hb0 hG hbx hbuild hkey hboxlt ⊢
  have HBX := Lib.hid hbx
  have HG := Lib.hid hG
  have HB0 := Lib.hid hb0
  have HD := Lib.hid (And.intro hd hdo)
  have HBU := Lib.hid hbuild
  have HKEY := Lib.hid hkey
  have HHI := Lib.hid hHI
  have e1 := hG.c1
  have ez := hG.rz 1
  have eo := hG.fo
  have hcell : (w.alloc (.cells XA 40)).cell? ⟨w.heap.size, 0, none⟩ = none ∨ True := Or.inr trivial
  clear hG hbx hb0 hbuild hkey hHI hXA hXS hCKf hd hdo hcell
  have hlen : (fs ++ [n]).length = fs.length + 1 := by simp
  rw [hlen] at e1 eo
  obtain ⟨gf, rfl, _, hgf⟩ := eo.at0 (by omega)
  have eat := World.ownsRow.cellAt eo fs.length (by omega)
  have hat : (nv (fs ++ [n]))[fs.length]? = some (.int .i64 (n : Nat)) := by simp [nv]
  rw [hat] at eat
  have EO := Lib.hid (Ow.take eo fs.length (by omega))
  clear eo hat hlen
  have hi1 : (fs.length : Int) < ((fs.length + 1 : Nat) : Int) := by omega
  have hi2 : (fs.length : Int) ≤ (fc : Int) := by have := EO.out.cap.1; omega
  go_enter Try.func51, Try.ntmps51
  go_wp2_with fail
  have htk : (nv (fs ++ [n])).take fs.length = nv fs := by rw [nv_app, List.take_left' (nv_len fs)]
  have hG2 := HG.out.setF (FA' := some ⟨gf, 0, none⟩) (fc' := fc) (fs' := fs) (Kept.refl _ _) (by rw [← htk]; exact EO.out) (Or.inl rfl)
  have hK2 := (Kept.ofBelow HB0.out).or (Kept.set (w.alloc (.cells XA 40)) r 1 (.slice (some ⟨gf, 0, none⟩) fs.length fc))
  have hcomm : (w.alloc (.cells XA 40)).setCell ⟨r, 1, none⟩ (.slice (some ⟨gf, 0, none⟩) fs.length fc) = (w.setCell ⟨r, 1, none⟩ (.slice (some ⟨gf, 0, none⟩) fs.length fc)).alloc (.cells XA 40) := by
    have hr := hW0.1
    go_simp
  rw [hcomm] at hG2 hK2
  have hbox2 : ((w.setCell ⟨r, 1, none⟩ (.slice (some ⟨gf, 0, none⟩) fs.length fc)).alloc (.cells XA 40)).rangeAt w.heap.size 0 XS := by
    rw [← hcomm]
    intro j v hv
    rw [World.cell?_setCell_other _ _ _ _ (ne_blk (by have := hW0.1; omega))]
    exact HBX.out j v hv
  generalize hw2 : (w.setCell ⟨r, 1, none⟩ (.slice (some ⟨gf, 0, none⟩) fs.length fc)).alloc (.cells XA 40) = w2 at *
  have hbk : w.heap.size < w2.heap.size := by have := hK2.size; rw [← hw2]; simp
  have hd2 : Rd w2 B A k (bv data) := hK2.rd HD.out.1 hB (fun i hi hlt e => by
    rcases e with e | e
    · omega
    · exact HD.out.2 i hi hlt (by rw [e]; exact HH.out.ors.1))
  have hth := hG2.there hnM
  have hgk : g ≠ w.heap.size := by have := hW0.2.1; omega
  have hall : ∀ w', Mid w2 w' g n → w'.there g (n * 36) 36 → w'.cell? ⟨r, 0, none⟩ = some (.slice (some ⟨g, 0, none⟩) (M + 1) (M + 1)) ∧ w'.rangeAt w.heap.size 0 XS ∧ w'.there g (n * 36) 36 ∧ Mid w2 w' g n := by
    intro w' hb ht
    obtain ⟨l1, l2, l3⟩ := hG2.lt
    refine ⟨(hb.kept.cell (a := ⟨r, 0, none⟩) l1 (fun e => e.elim hG2.link.ne (fun e => Nat.not_lt.2 e l1))).trans hG2.link.c0, fun j v hv => ?_, ht, hb⟩
    exact (hb.kept.cell (a := ⟨w.heap.size, 0 + j, none⟩) hbk (fun e => e.elim (fun e => hgk e.symm) (fun e => Nat.not_lt.2 e hbk))).trans (hbox2 j v hv)
  have HALL := Lib.hid hall
  have HTH := Lib.hid hth
  have hcl : ∀ w', Mid w2 w' g n → Calls Try.prog 45 #[.slice A k c] w' (lib.Made w' data) := fun w' hb =>
    bclone_any A k c B data w' (hb.kept.rd hd2 (by have := HB0.out.size; have := hK2.size; omega) (fun i hi hlt e => by
      rcases e with e | e
      · exact HD.out.2 i hi hlt (by rw [e]; exact HH.out.ors.2.1)
      · have := hK2.size; omega)) (by have := hb.kept.size; have := hK2.size; omega) (by omega)
  have HCL := Lib.hid hcl
  have HG2 := Lib.hid hG2
  have HK2 := Lib.hid hK2
  have HI2 := HHI.out
  have hckl : ∀ A k c, (CKf A k c).length = 36 := fun A k c => by rw [← HCKF.out]; exact ckL_len _ _ _ _ HS.out
  have hin2 : (n : Int) < (M : Int) + 1 := by omega
  have hcko : ∀ A k c, ∀ v ∈ CKf A k c, v.oneCell' = true := fun A k c => by rw [← HCKF.out]; exact ck_one _ _ _ _
  have hin : (n : Int) < ((M + 1 : Nat) : Int) := by omega
  have hbu := HBU.out
  have hu40 := Try.underlying40
  have hu73 := Try.underlying73
  have hi73 := info_chunk
  clear hG2 hK2 hcl hall hth hd2 hbox2 hcomm
  rw [HXA.out.symm] at hbu
  refine wp_region_held_drew (S := fun w' => w'.cell? ⟨r, 0, none⟩ = some (.slice (some ⟨g, 0, none⟩) (M + 1) (M + 1)) ∧ w'.rangeAt w.heap.size 0 XS ∧ w'.there g (n * 36) 36 ∧ Mid w2 w' g n) (by kernel_rfl) (HALL.out _ Mid.drew ((World.there_drew _ _ _ _).2 HTH.out)) (fun hHeld => ?_)
  refine wpAnyH_take (i := 0) (oi := { dst := some 30, op := Op.move (Operand.tmp 0), type := 62, pos := "store.go:76", after := #[], guard := none }) (v := .pointer (some ⟨r, 0, none⟩)) rfl (by kernel_rfl) (by kernel_rfl) (by kernel_rfl) (fun _ _ _ h => h) (Or.inl ⟨by rfl, ?hy0⟩) (by assumption) ?rest0
  case hy0 => (intro w hSw; (try dsimp only at hSw); obtain ⟨s1, s2, s3, s4⟩ := hSw; go_simp; try with_reducible rfl)
  try simp only [Act.put, List.setIfInBounds_toArray, List.set_cons_zero, List.set_cons_succ]
  refine wpAnyH_take (i := 1) (oi := { dst := some 31, op := Op.nilCheck (Operand.tmp 30), type := 0, pos := "store.go:76", after := #[{ on := 0, ground := Ground.data }], guard := none }) (v := .pointer (some ⟨r, 0, none⟩)) rfl (by kernel_rfl) (by kernel_rfl) (by kernel_rfl) (fun _ _ _ h => h) (Or.inl ⟨by rfl, ?hy1⟩) (by assumption) ?rest1
  case hy1 => (intro w hSw; (try dsimp only at hSw); obtain ⟨s1, s2, s3, s4⟩ := hSw; go_simp; try with_reducible rfl)
  try simp only [Act.put, List.setIfInBounds_toArray, List.set_cons_zero, List.set_cons_succ]
  refine wpAnyH_take (i := 2) (oi := { dst := some 32, op := Op.fieldAddr 77 (Operand.tmp 31) 0, type := 0, pos := "store.go:76", after := #[{ on := 1, ground := Ground.data }], guard := none }) (v := .pointer (some ⟨r, 0, none⟩)) rfl (by kernel_rfl) (by kernel_rfl) (by kernel_rfl) (fun _ _ _ h => h) (Or.inl ⟨by rfl, ?hy2⟩) (by assumption) ?rest2
  case hy2 => (intro w hSw; (try dsimp only at hSw); obtain ⟨s1, s2, s3, s4⟩ := hSw; go_simp; try with_reducible rfl)
  try simp only [Act.put, List.setIfInBounds_toArray, List.set_cons_zero, List.set_cons_succ]
  refine wpAnyH_take (i := 3) (oi := { dst := some 33, op := Op.load 74 (Operand.tmp 32), type := 74, pos := "store.go:76", after := #[{ on := 2, ground := Ground.data }], guard := none }) (v := .slice (some ⟨g, 0, none⟩) (M + 1) (M + 1)) rfl (by kernel_rfl) (by kernel_rfl) (by kernel_rfl) (fun _ _ _ h => h) (Or.inl ⟨by rfl, ?hy3⟩) (by assumption) ?rest3
  case hy3 => (intro w hSw; (try dsimp only at hSw); obtain ⟨s1, s2, s3, s4⟩ := hSw; go_simp; try with_reducible rfl)
  try simp only [Act.put, List.setIfInBounds_toArray, List.set_cons_zero, List.set_cons_succ]
  refine wpAnyH_take (i := 4) (oi := { dst := some 34, op := Op.move (Operand.tmp 7), type := 3, pos := "store.go:76", after := #[], guard := none }) (v := .int .i64 (n : Nat)) rfl (by kernel_rfl) (by kernel_rfl) (by kernel_rfl) (fun _ _ _ h => h) (Or.inl ⟨by rfl, ?hy4⟩) (by assumption) ?rest4
  case hy4 => (intro w hSw; (try dsimp only at hSw); obtain ⟨s1, s2, s3, s4⟩ := hSw; go_simp; try with_reducible rfl)
  try simp only [Act.put, List.setIfInBounds_toArray, List.set_cons_zero, List.set_cons_succ]
  refine wpAnyH_take (i := 5) (oi := { dst := some 35, op := Op.load 40 (Operand.tmp 4), type := 40, pos := "store.go:76", after := #[], guard := none }) (v := .agg XS.toArray) rfl (by kernel_rfl) (by kernel_rfl) (by kernel_rfl) (fun _ _ _ h => h) (yieldsIf_load_mid (by rfl) 40 (.tmp 4) rfl w.heap.size 0 rfl XS _ (fun _ h => h.2.1) hu40 rfl HI2) (by assumption) ?rest5
  try simp only [Act.put, List.setIfInBounds_toArray, List.set_cons_zero, List.set_cons_succ]
  refine wpAnyH_take (i := 6) (oi := { dst := some 36, op := Op.move (Operand.tmp 2), type := 32, pos := "store.go:76", after := #[], guard := none }) (v := .slice A k c) rfl (by kernel_rfl) (by kernel_rfl) (by kernel_rfl) (fun _ _ _ h => h) (Or.inl ⟨by rfl, ?hy6⟩) (by assumption) ?rest6
  case hy6 => (intro w hSw; (try dsimp only at hSw); obtain ⟨s1, s2, s3, s4⟩ := hSw; go_simp; try with_reducible rfl)
  try simp only [Act.put, List.setIfInBounds_toArray, List.set_cons_zero, List.set_cons_succ]
  refine wpAnyH_ready (rs := [7]) (by kernel_rfl) (by simp) ?_
  refine AllReadyH.cons (o := { dst := some 37, op := Op.call { callee := Callee.value (Operand.func 45), args := #[Operand.tmp 36], argTypes := #[32] }, type := 32, pos := "store.go:76", after := #[{ on := 6, ground := Ground.data }], guard := none }) rfl (fun K hK => ?_) AllReadyH.nil
  go_simp
  obtain ⟨_, _, hthq, hbq⟩ := hHeld
  refine (HCL.out _ hbq).mono ?_
  rintro e w9 ⟨A9, N9, c9, rfl, ho9, hb9'⟩
  have hb9 : Mid w2 w9 g n := hbq.below hb9' HG2.out.lt.2.1
  have hth9 := there_below hthq hb9' (Nat.lt_of_lt_of_le HG2.out.lt.2.1 hbq.kept.size)
  have HO9 := Lib.hid (And.intro ho9 hbq.kept.size)
  clear ho9 hb9' hthq hbq
  go_wp2_with fail
  refine hK.out _ _ (HALL.out _ hb9 hth9) (fun hHeld => ?_)
  clear hK K
  try simp only [Act.put, List.setIfInBounds_toArray, List.set_cons_zero, List.set_cons_succ]
  refine wpAnyH_take (i := 8) (oi := { dst := some 38, op := Op.build 73 #[(0, Operand.tmp 35), (1, Operand.tmp 37)], type := 73, pos := "store.go:76", after := #[{ on := 5, ground := Ground.data }, { on := 7, ground := Ground.data }], guard := none }) (v := .agg (CKf A9 N9 c9).toArray) rfl (by kernel_rfl) (by kernel_rfl) (by kernel_rfl) (fun _ _ _ h => h) (yieldsIf_build (by rfl) 73 #[(0, .tmp 35), (1, .tmp 37)] rfl _ #[(0, .agg XS.toArray), (1, .slice A9 N9 c9)] (by kernel_rfl) (fun w => hbu A9 N9 c9 w)) (by assumption) ?rest8
  try simp only [Act.put, List.setIfInBounds_toArray, List.set_cons_zero, List.set_cons_succ]
  refine wpAnyH_take (i := 9) (oi := { dst := some 39, op := Op.indexAddr 74 (Operand.tmp 33) (Operand.tmp 34), type := 0, pos := "store.go:76", after := #[{ on := 3, ground := Ground.data }, { on := 4, ground := Ground.data }, { on := 0, ground := Ground.phase }, { on := 1, ground := Ground.phase }, { on := 2, ground := Ground.phase }, { on := 3, ground := Ground.phase }, { on := 4, ground := Ground.phase }, { on := 5, ground := Ground.phase }, { on := 6, ground := Ground.phase }, { on := 7, ground := Ground.phase }, { on := 8, ground := Ground.phase }], guard := none }) (v := .pointer (some ⟨g, n * 36, none⟩)) rfl (by kernel_rfl) (by kernel_rfl) (by kernel_rfl) (fun _ _ _ h => h) (Or.inl ⟨by rfl, ?hy9⟩) (by assumption) ?rest9
  case hy9 => (intro w hSw; (try dsimp only at hSw); obtain ⟨s1, s2, s3, s4⟩ := hSw; go_simp; try with_reducible rfl)
  try simp only [Act.put, List.setIfInBounds_toArray, List.set_cons_zero, List.set_cons_succ]
  refine wpAnyH_ready (rs := [10]) (by kernel_rfl) (by simp) ?_
  refine AllReadyH.cons (o := { dst := none, op := Op.store 73 (Operand.tmp 39) (Operand.tmp 38), type := 0, pos := "store.go:76", after := #[{ on := 9, ground := Ground.data }, { on := 8, ground := Ground.data }, { on := 7, ground := Ground.chain }, { on := 0, ground := Ground.phase }, { on := 1, ground := Ground.phase }, { on := 2, ground := Ground.phase }, { on := 3, ground := Ground.phase }, { on := 4, ground := Ground.phase }, { on := 5, ground := Ground.phase }, { on := 6, ground := Ground.phase }, { on := 7, ground := Ground.phase }, { on := 8, ground := Ground.phase }], guard := none }) rfl (fun K hK => ?_) AllReadyH.nil
  refine (if_pos (by rfl)).mpr ?_
  obtain ⟨hq1, hq2, hq3, hq4⟩ := hHeld
  refine wp_store_mid 73 (.tmp 39) (.tmp 38) rfl g (n * 36) (CKf A9 N9 c9).toArray rfl rfl (by simpa [hckl] using hq3) (by simpa [hckl] using hi73) (all_oneCell_toArray (hcko _ _ _)) ?_
  have hm10 := hq4.set (CKf A9 N9 c9) (hckl _ _ _)
  have hr10 := World.rangeAt_setCells_same w9 g (n * 36) (CKf A9 N9 c9) (by rw [hckl]; exact hq3)
  have HS9 := Lib.hid (size_setCells g (CKf A9 N9 c9) (n * 36) w9)
  have HKS := Lib.hid (kept_setCells g (CKf A9 N9 c9) (n * 36) w9)
  refine hK.out _ _ (HALL.out _ hm10 (World.there_setCells hq3 _ _ _)) (fun hHeld => ?_)
  clear hK K hHeld hq1 hq2 hq3 hth9
  simp only [Act.put]
  refine wpAnyH_done (by kernel_rfl) ?_ _
  -- behind region 4
  have hN9 : N9 = data.length := by have := HO9.out.1.len; rw [bv_len] at this; exact this.symm
  have hdl : data.length = k := by rw [← bv_len]; exact HD.out.1.len
  have hrow9 : Rd w9 w9.heap.size A9 N9 (bv data) := HO9.out.1.rd
  have hlow9 : ∀ i, blk A9 = some i → w2.heap.size ≤ i ∧ i < w9.heap.size := fun i hi => by
    have := HO9.out.1.blk_lt i hi
    exact ⟨Nat.le_trans HO9.out.2 this.1, this.2⟩
  obtain ⟨l1, l2, l3⟩ := HG2.out.lt
  have hrow10 := (HKS.out.rd hrow9 (Nat.le_refl _) (fun i hi _ e => by have := hlow9 i hi; omega)).more HKS.out.size
  rw [← HCKF.out] at hr10 hm10 hrow10
  have hfa2 : ∀ i, some gf = some i → i < w2.heap.size := fun i hi => (HG2.out.fo.blk_lt i hi).2
  have hG10 := HG2.out.setE2 n hnM hm10 ⟨sm, data, 0⟩ ⟨A9, N9, c9⟩ 0 0 hr10 HS.out HO9.out.1.cap.1 hrow10 (fun i hi => by
    obtain ⟨h1, h2⟩ := hlow9 i hi
    refine ⟨Or.inr h1, by omega, by omega, by omega, fun e => ?_, ?_⟩
    · have := hfa2 i e; omega
    · rw [size_setCells]; exact h2) (show data.length ≤ 8192 by omega)
  have hK10 : Kept w (w9.setCells g (n * 36) (ckL ⟨sm, [], 0⟩ ⟨A9, N9, c9⟩ 0 0)) O := (HK2.out.or hm10.kept).more (fun i hi e => by
    rcases e with (e | e) | e | e
    · omega
    · rw [e]; exact HH.out.ors.1
    · rw [e]; exact HH.out.ors.2.1
    · have := HK2.out.size; omega)
  have hbox10 : (w9.setCells g (n * 36) (ckL ⟨sm, [], 0⟩ ⟨A9, N9, c9⟩ 0 0)).rangeAt w.heap.size 0 XS := by
    have := (HALL.out _ hm10 (hG10.there hnM)).2.1
    exact this
  have hbk10 : w.heap.size < (w9.setCells g (n * 36) (ckL ⟨sm, [], 0⟩ ⟨A9, N9, c9⟩ 0 0)).heap.size := Nat.lt_of_lt_of_le hbk hm10.kept.size
  rw [← HCKF.out]
  have HA9 := Lib.hid (fun i hi => Nat.le_trans (Nat.le_of_lt hbk) (hlow9 i hi).1 : ∀ i, blk A9 = some i → w.heap.size ≤ i)
  have HSZ := Lib.hid (And.intro hbk hm10.kept.size)
  have HN9 := Lib.hid (hN9.trans hdl)
  clear hfa2 hrow10 hrow9 hlow9 hr10 hm10 hN9 HKS HS9 HO9 hb9 hq4
  generalize w9.setCells g (n * 36) (ckL ⟨sm, [], 0⟩ ⟨A9, N9, c9⟩ 0 0) = w10 at *
  obtain ⟨DM, hown, hMD⟩ := hG10.mp.datum
  have f0 := hG10.c2
  have HG10 := Lib.hid hG10
  have HK10 := Lib.hid hK10
  have HBX10 := Lib.hid hbox10
  have HMD := Lib.hid hMD
  have HOWN := Lib.hid hown
  clear hG10 hK10 hbox10 hMD hown hckl hcko hbu HBU HCL HALL
  go_wp2_with fail
  refine wp_region_still_tail 6 (by kernel_rfl) (by kernel_rfl) ?_
  simp only [List.take_succ_cons, List.take_zero, List.drop_succ_cons, List.drop_zero]
  repeat still_step
  refine s_load rfl 40 (.tmp 4) rfl w.heap.size 0 rfl XS _ HBX10.out hu40 rfl HI2 ?_
  go_simp
  repeat still_step
  refine wpStill_nil ?_
  change wpList _ _ _ _ _ w10.drew
  have hG11 := HG10.out.kept (Kept.drew _ (fun _ => False)) (fun _ _ _ e => e)
  have hown11 := HOWN.out.drew
  have hK11 := (HK10.out.or (Kept.drew w10 (fun _ => False))).more (bad' := O) (fun i _ e => e.elim id False.elim)
  clear HOWN HG10 HK10 f0 HBX10
  generalize w10.drew = w11 at *
  have HG11 := Lib.hid hG11
  have HK11 := Lib.hid hK11
  have HOWN := Lib.hid hown11
  clear hG11 hK11 hown11
  have hlen4 : (ns ++ (fs ++ [n])).length = M := by have := HH.out.count; simp at this ⊢; omega
  have hml : ns.length < 65 := by simp at hlen4; omega
  refine wpList_mapUpdate_own _ rfl _ _ _ 58 rfl 40 3 sumKeyed Try.underlying58 _ mb _ DM rfl HOWN.out (by unfold maxLen; omega) (.agg XA) (.int .i64 (n : Nat)) (kl sm) (by rw [← HXA.out]; rfl) rfl HKEY.out (num n) [] (plainElem_int Try.underlying3 (by simp [Lit.wf, IntKind.min, IntKind.max, IntKind.signed, IntKind.bits]; omega)) ?_
  intro w12 hown12 hgr12
  have hnin : n ∉ ns := by
    intro hm
    have hd := HH.out.nodup
    rw [List.nodup_append] at hd
    exact hd.2.2 n hm n (by simp) rfl
  have hupd : ∀ m ∈ ns, updE E n ⟨sm, data, 0⟩ m = E m := fun m hm => updE_other _ _ (fun e => hnin (by rw [← e]; exact hm))
  have hMD12 := HMD.out.put (n := n) (sf := fun m => (updE E n ⟨sm, data, 0⟩ m).sum) HS.out (fun m hm => HH.out.len m (HH.out.mem (Or.inl hm)).2) (fun m hm => HNO.out m hm) (by show (updE E n ⟨sm, data, 0⟩ n).sum = sm; rw [updE_same]) (fun m hm => by
      show (updE E n ⟨sm, data, 0⟩ m).sum = (E m).sum
      rw [hupd m hm])
  have hG12 := HG11.out.map hgr12 (MapB.of hown12 hMD12)
  have hK12 := (HK11.out.or (Kept.of hgr12)).more (bad' := O) (fun i _ e => e.elim id (fun e => by injection e with e; rw [← e]; exact HH.out.ors.2.2))
  have hS12 := hG12.c3
  have hz12 := hG12.rz 3
  have hG13 := hG12.setR (total (ns.map E) + k)
  have hK13 := (hK12.or (Kept.set w12 r 3 (.int .i64 ((total (ns.map E) + k : Nat) : Int)))).more (bad' := O) (fun i _ e => e.elim id (fun e => by rw [e]; exact HH.out.ors.1))
  have hcc : Chain (upd ah n 0) (upd bh n 0) 0 ns := chain_congr ns 0 HC.out (fun m hm => upd_other _ _ (by
    rcases List.mem_cons.1 hm with e | e
    · omega
    · intro e2; exact hnin (e2 ▸ e))) (fun m hm => upd_other _ _ (by
    rcases List.mem_cons.1 hm with e | e
    · omega
    · intro e2; exact hnin (e2 ▸ e)))
  have hlast := chain_last ns 0 hcc
  have ha0 : upd ah n 0 0 ≤ M := by
    rcases List.mem_cons.1 hlast with e | e
    · omega
    · exact (HH.out.mem (Or.inl e)).2
  have hane : upd ah n 0 0 ≠ n := by
    rcases List.mem_cons.1 hlast with e | e
    · omega
    · intro e2; exact hnin (e2 ▸ e)
  have hck := chain_link n (by omega) ns 0 hcc HH.out.ring (List.nodup_cons.1 HH.out.ring).1 (fun e => by
    rcases List.mem_cons.1 e with e | e
    · omega
    · exact hnin e)
  obtain ⟨T0, hT0⟩ : ∃ T0, total (ns.map E) = T0 := ⟨_, rfl⟩
  rw [hT0] at hS12 hG13 hK13 hT
  rw [Int.natCast_add] at hG13 hK13
  have HL := Lib.hid (link_any n _ hG13.link hnM ha0 hM hane (by omega))
  have HG13 := Lib.hid hG13
  have HK13 := Lib.hid hK13
  have HT0 := Lib.hid hT0
  have HCK := Lib.hid hck
  have HUPD := Lib.hid hupd
  have HNIN := Lib.hid hnin
  clear hG12 hK12 hG13 hK13 hT0 hck hupd hnin hMD12 hown12 hgr12 HG11 HK11 HOWN hcc hlast ha0 hane
  go_wp2_with (go_at_call 54; refine HL.out.mono ?_; rintro e w14 ⟨rfl, hL14, hR14⟩)
  have hG14 := HG13.out.relink hL14 hR14
  have hK14 := (HK13.out.or hR14.kept).more (bad' := O) (fun i _ e => e.elim id (fun e => by rw [e]; exact HH.out.ors.2.1))
  go_end0
  have hmap : (ns ++ [n]).map (updE E n ⟨sm, data, 0⟩) = ns.map E ++ [⟨sm, data, 0⟩] := by
    rw [List.map_append, List.map_singleton, updE_same, List.map_congr_left HUPD.out]
  refine ⟨rfl, some ⟨gf, 0, none⟩, fc, ⟨A9, N9, c9⟩, ?_, hK14, HA9.out⟩
  refine (hG14.own (O' := fun i => O i ∨ w.heap.size ≤ i) (fun i h => ?_)).toB HCK.out hG14.mp ?_ ?_ ?_
  · rcases h with (h | h) | h
    · exact Or.inl h
    · exact Or.inr (by have := HB0.out.size; omega)
    · exact Or.inr (by have := HSZ.out; omega)
  · rw [hmap, total_append, HT0.out]
    have h9 : total [(⟨sm, data, 0⟩ : Ent)] = k := by rw [← hdl]; simp [total]
    rw [h9]
  · rw [List.append_assoc]
    exact (List.Perm.append_left ns List.perm_append_comm).trans HH.out.pm
  · rw [hmap]
    unfold sums
    rw [List.map_append, List.nodup_append]
    refine ⟨HH.out.dj, by simp, fun a ha b hb e => ?_⟩
    simp at hb
    obtain ⟨x, hx, rfl⟩ := List.mem_map.1 ha
    obtain ⟨m, hm, rfl⟩ := List.mem_map.1 hx
    exact HNO.out m hm (e.trans hb)
#print axioms add_any
end
end Go.Proofs.Ytnmifaohmafobaa.st
