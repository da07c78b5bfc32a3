/- Contract of packet.Refuse. -/
import Derived.Test.YtjpdamighffgfaaPkL
namespace Go.Proofs.Ytjpdamighffgfaa.pk
open Go.RowKit Mem SM lib sum PM
set_option linter.unusedVariables false
def refP (p : Pk) (seq ack flags : Int) : Pk := ⟨p.dst, p.src, p.dport, p.sport, seq, ack, flags, 0, 0, 0, []⟩
/-- what is known while a refusal is made -/
structure RS (w0 : World) (g g4 : Nat) (p : Pk) (A : Option Addr) (n c : Nat) (rp : Pk) (w : World) : Prop where
  pk : PkAt w g p A n c
  rs : PkAt w g4 rp none 0 0
  zr : ZAt w (g + 1)
  f4 : w.frozen? ⟨g4, 4, none⟩ = false
  f5 : w.frozen? ⟨g4, 5, none⟩ = false
  bel : Below w0.heap.size w0 w
  ne : g + 1 < g4
  lt : g4 < w.heap.size
  eq : g = w0.heap.size
theorem RS.below {w0 w w1 : World} {g g4 : Nat} {p rp : Pk} {A : Option Addr} {n c : Nat} (h : RS w0 g g4 p A n c rp w) (hb : Below w.heap.size w w1) : RS w0 g g4 p A n c rp w1 := by
  have h1 := h.lt
  have h2 := h.ne
  exact ⟨h.pk.below hb (by omega), h.rs.below hb h1, h.zr.below hb (by omega), (hb.frozen (p := ⟨g4, 4, none⟩) h1).trans h.f4, (hb.frozen (p := ⟨g4, 5, none⟩) h1).trans h.f5, h.bel.trans (hb.mono h.bel.size), h2, Nat.lt_of_lt_of_le h1 hb.size, h.eq⟩
theorem RS.drew {w0 w : World} {g g4 : Nat} {p rp : Pk} {A : Option Addr} {n c : Nat} (h : RS w0 g g4 p A n c rp w) : RS w0 g g4 p A n c rp w.drew := h.below (below_drew (Below.refl _ _))
theorem RS.ack {w0 w : World} {g g4 : Nat} {p : Pk} {A : Option Addr} {n c : Nat} {s a f x : Int} (h : RS w0 g g4 p A n c (refP p s a f) w) : RS w0 g g4 p A n c (refP p s x f) (w.setCell ⟨g4, 5, none⟩ (.int .u32 x)) :=
  ⟨⟨(World.cell?_setCell_other _ _ _ _ (by intro e; injection e with e1 _; have := h.ne; omega)).trans h.pk.c0, (World.cell?_setCell_other _ _ _ _ (by intro e; injection e with e1 _; have := h.ne; omega)).trans h.pk.c1, (World.cell?_setCell_other _ _ _ _ (by intro e; injection e with e1 _; have := h.ne; omega)).trans h.pk.c2, (World.cell?_setCell_other _ _ _ _ (by intro e; injection e with e1 _; have := h.ne; omega)).trans h.pk.c3, (World.cell?_setCell_other _ _ _ _ (by intro e; injection e with e1 _; have := h.ne; omega)).trans h.pk.c4, (World.cell?_setCell_other _ _ _ _ (by intro e; injection e with e1 _; have := h.ne; omega)).trans h.pk.c5, (World.cell?_setCell_other _ _ _ _ (by intro e; injection e with e1 _; have := h.ne; omega)).trans h.pk.c6, (World.cell?_setCell_other _ _ _ _ (by intro e; injection e with e1 _; have := h.ne; omega)).trans h.pk.c7, (World.cell?_setCell_other _ _ _ _ (by intro e; injection e with e1 _; have := h.ne; omega)).trans h.pk.c8, (World.cell?_setCell_other _ _ _ _ (by intro e; injection e with e1 _; have := h.ne; omega)).trans h.pk.c9, (World.cell?_setCell_other _ _ _ _ (by intro e; injection e with e1 _; have := h.ne; omega)).trans h.pk.c10⟩, ⟨(World.cell?_setCell_other _ _ _ _ (by intro e; injection e with _ e2; exact absurd e2 (by decide))).trans h.rs.c0, (World.cell?_setCell_other _ _ _ _ (by intro e; injection e with _ e2; exact absurd e2 (by decide))).trans h.rs.c1, (World.cell?_setCell_other _ _ _ _ (by intro e; injection e with _ e2; exact absurd e2 (by decide))).trans h.rs.c2, (World.cell?_setCell_other _ _ _ _ (by intro e; injection e with _ e2; exact absurd e2 (by decide))).trans h.rs.c3, (World.cell?_setCell_other _ _ _ _ (by intro e; injection e with _ e2; exact absurd e2 (by decide))).trans h.rs.c4, World.cell?_setCell_same _ _ _ h.rs.c5, (World.cell?_setCell_other _ _ _ _ (by intro e; injection e with _ e2; exact absurd e2 (by decide))).trans h.rs.c6, (World.cell?_setCell_other _ _ _ _ (by intro e; injection e with _ e2; exact absurd e2 (by decide))).trans h.rs.c7, (World.cell?_setCell_other _ _ _ _ (by intro e; injection e with _ e2; exact absurd e2 (by decide))).trans h.rs.c8, (World.cell?_setCell_other _ _ _ _ (by intro e; injection e with _ e2; exact absurd e2 (by decide))).trans h.rs.c9, (World.cell?_setCell_other _ _ _ _ (by intro e; injection e with _ e2; exact absurd e2 (by decide))).trans h.rs.c10⟩, ⟨(World.cell?_setCell_other _ _ _ _ (by intro e; injection e with e1 _; have := h.ne; omega)).trans h.zr.c0, (World.cell?_setCell_other _ _ _ _ (by intro e; injection e with e1 _; have := h.ne; omega)).trans h.zr.c1, (World.cell?_setCell_other _ _ _ _ (by intro e; injection e with e1 _; have := h.ne; omega)).trans h.zr.c2, (World.cell?_setCell_other _ _ _ _ (by intro e; injection e with e1 _; have := h.ne; omega)).trans h.zr.c3, (World.cell?_setCell_other _ _ _ _ (by intro e; injection e with e1 _; have := h.ne; omega)).trans h.zr.c4, (World.cell?_setCell_other _ _ _ _ (by intro e; injection e with e1 _; have := h.ne; omega)).trans h.zr.c5, (World.cell?_setCell_other _ _ _ _ (by intro e; injection e with e1 _; have := h.ne; omega)).trans h.zr.c6, (World.cell?_setCell_other _ _ _ _ (by intro e; injection e with e1 _; have := h.ne; omega)).trans h.zr.c7, (World.cell?_setCell_other _ _ _ _ (by intro e; injection e with e1 _; have := h.ne; omega)).trans h.zr.c8, (World.cell?_setCell_other _ _ _ _ (by intro e; injection e with e1 _; have := h.ne; omega)).trans h.zr.c9, (World.cell?_setCell_other _ _ _ _ (by intro e; injection e with e1 _; have := h.ne; omega)).trans h.zr.c10, (World.frozen?_setCell _ _ _ _).trans h.zr.f0, (World.frozen?_setCell _ _ _ _).trans h.zr.f1, (World.frozen?_setCell _ _ _ _).trans h.zr.f2, (World.frozen?_setCell _ _ _ _).trans h.zr.f3, (World.frozen?_setCell _ _ _ _).trans h.zr.f4, (World.frozen?_setCell _ _ _ _).trans h.zr.f5, (World.frozen?_setCell _ _ _ _).trans h.zr.f6, (World.frozen?_setCell _ _ _ _).trans h.zr.f7, (World.frozen?_setCell _ _ _ _).trans h.zr.f8, (World.frozen?_setCell _ _ _ _).trans h.zr.f9, (World.frozen?_setCell _ _ _ _).trans h.zr.f10⟩, (World.frozen?_setCell _ _ _ _).trans h.f4, (World.frozen?_setCell _ _ _ _).trans h.f5, h.bel.setCell (by have h1 := h.ne; have h2 := h.eq; simp; omega) _, h.ne, by simp [World.setCell]; exact h.lt, h.eq⟩
theorem RS.seq {w0 w : World} {g g4 : Nat} {p : Pk} {A : Option Addr} {n c : Nat} {s a f x : Int} (h : RS w0 g g4 p A n c (refP p s a f) w) : RS w0 g g4 p A n c (refP p x a f) (w.setCell ⟨g4, 4, none⟩ (.int .u32 x)) :=
  ⟨⟨(World.cell?_setCell_other _ _ _ _ (by intro e; injection e with e1 _; have := h.ne; omega)).trans h.pk.c0, (World.cell?_setCell_other _ _ _ _ (by intro e; injection e with e1 _; have := h.ne; omega)).trans h.pk.c1, (World.cell?_setCell_other _ _ _ _ (by intro e; injection e with e1 _; have := h.ne; omega)).trans h.pk.c2, (World.cell?_setCell_other _ _ _ _ (by intro e; injection e with e1 _; have := h.ne; omega)).trans h.pk.c3, (World.cell?_setCell_other _ _ _ _ (by intro e; injection e with e1 _; have := h.ne; omega)).trans h.pk.c4, (World.cell?_setCell_other _ _ _ _ (by intro e; injection e with e1 _; have := h.ne; omega)).trans h.pk.c5, (World.cell?_setCell_other _ _ _ _ (by intro e; injection e with e1 _; have := h.ne; omega)).trans h.pk.c6, (World.cell?_setCell_other _ _ _ _ (by intro e; injection e with e1 _; have := h.ne; omega)).trans h.pk.c7, (World.cell?_setCell_other _ _ _ _ (by intro e; injection e with e1 _; have := h.ne; omega)).trans h.pk.c8, (World.cell?_setCell_other _ _ _ _ (by intro e; injection e with e1 _; have := h.ne; omega)).trans h.pk.c9, (World.cell?_setCell_other _ _ _ _ (by intro e; injection e with e1 _; have := h.ne; omega)).trans h.pk.c10⟩, ⟨(World.cell?_setCell_other _ _ _ _ (by intro e; injection e with _ e2; exact absurd e2 (by decide))).trans h.rs.c0, (World.cell?_setCell_other _ _ _ _ (by intro e; injection e with _ e2; exact absurd e2 (by decide))).trans h.rs.c1, (World.cell?_setCell_other _ _ _ _ (by intro e; injection e with _ e2; exact absurd e2 (by decide))).trans h.rs.c2, (World.cell?_setCell_other _ _ _ _ (by intro e; injection e with _ e2; exact absurd e2 (by decide))).trans h.rs.c3, World.cell?_setCell_same _ _ _ h.rs.c4, (World.cell?_setCell_other _ _ _ _ (by intro e; injection e with _ e2; exact absurd e2 (by decide))).trans h.rs.c5, (World.cell?_setCell_other _ _ _ _ (by intro e; injection e with _ e2; exact absurd e2 (by decide))).trans h.rs.c6, (World.cell?_setCell_other _ _ _ _ (by intro e; injection e with _ e2; exact absurd e2 (by decide))).trans h.rs.c7, (World.cell?_setCell_other _ _ _ _ (by intro e; injection e with _ e2; exact absurd e2 (by decide))).trans h.rs.c8, (World.cell?_setCell_other _ _ _ _ (by intro e; injection e with _ e2; exact absurd e2 (by decide))).trans h.rs.c9, (World.cell?_setCell_other _ _ _ _ (by intro e; injection e with _ e2; exact absurd e2 (by decide))).trans h.rs.c10⟩, ⟨(World.cell?_setCell_other _ _ _ _ (by intro e; injection e with e1 _; have := h.ne; omega)).trans h.zr.c0, (World.cell?_setCell_other _ _ _ _ (by intro e; injection e with e1 _; have := h.ne; omega)).trans h.zr.c1, (World.cell?_setCell_other _ _ _ _ (by intro e; injection e with e1 _; have := h.ne; omega)).trans h.zr.c2, (World.cell?_setCell_other _ _ _ _ (by intro e; injection e with e1 _; have := h.ne; omega)).trans h.zr.c3, (World.cell?_setCell_other _ _ _ _ (by intro e; injection e with e1 _; have := h.ne; omega)).trans h.zr.c4, (World.cell?_setCell_other _ _ _ _ (by intro e; injection e with e1 _; have := h.ne; omega)).trans h.zr.c5, (World.cell?_setCell_other _ _ _ _ (by intro e; injection e with e1 _; have := h.ne; omega)).trans h.zr.c6, (World.cell?_setCell_other _ _ _ _ (by intro e; injection e with e1 _; have := h.ne; omega)).trans h.zr.c7, (World.cell?_setCell_other _ _ _ _ (by intro e; injection e with e1 _; have := h.ne; omega)).trans h.zr.c8, (World.cell?_setCell_other _ _ _ _ (by intro e; injection e with e1 _; have := h.ne; omega)).trans h.zr.c9, (World.cell?_setCell_other _ _ _ _ (by intro e; injection e with e1 _; have := h.ne; omega)).trans h.zr.c10, (World.frozen?_setCell _ _ _ _).trans h.zr.f0, (World.frozen?_setCell _ _ _ _).trans h.zr.f1, (World.frozen?_setCell _ _ _ _).trans h.zr.f2, (World.frozen?_setCell _ _ _ _).trans h.zr.f3, (World.frozen?_setCell _ _ _ _).trans h.zr.f4, (World.frozen?_setCell _ _ _ _).trans h.zr.f5, (World.frozen?_setCell _ _ _ _).trans h.zr.f6, (World.frozen?_setCell _ _ _ _).trans h.zr.f7, (World.frozen?_setCell _ _ _ _).trans h.zr.f8, (World.frozen?_setCell _ _ _ _).trans h.zr.f9, (World.frozen?_setCell _ _ _ _).trans h.zr.f10⟩, (World.frozen?_setCell _ _ _ _).trans h.f4, (World.frozen?_setCell _ _ _ _).trans h.f5, h.bel.setCell (by have h1 := h.ne; have h2 := h.eq; simp; omega) _, h.ne, by simp [World.setCell]; exact h.lt, h.eq⟩
def refuseP (p : Pk) : Pk := if fl p.flags 3 then Pk.none else refP p (if fl p.flags 1 then p.ack else 0) ((p.seq + takes p) % 4294967296) 10
def RefPost (p : Pk) (w : World) (e : Ending) (w' : World) : Prop := e = .returned (.tuple #[pkV (refuseP p) none 0 0, .bool (!fl p.flags 3)]) ∧ Below w.heap.size w w'
set_option maxRecDepth 50000 in
set_option maxHeartbeats 16000000 in
theorem refuse_any (p : Pk) (A : Option Addr) (n c : Nat) (w : World) (hn : n = p.data.length) (hnb : n ≤ 1099511627776) (hu : u32P p) :
    Calls Try.prog 23 #[pkV p A n c] w (RefPost p w) := by
  obtain ⟨W, hW⟩ : ∃ W, W = (w.alloc (pkO p A n c)).alloc (.cells #[.int .i64 0, .int .i64 0, .int .i64 0, .int .i64 0, .int .u32 0, .int .u32 0, .int .i64 0, .int .i64 0, .int .i64 0, .int .i64 0, .slice none 0 0] 25) := ⟨_, rfl⟩
  obtain ⟨g, hg⟩ : ∃ g, g = w.heap.size := ⟨_, rfl⟩
  have hb1 : Below (w.alloc (pkO p A n c)).heap.size (w.alloc (pkO p A n c)) W := by rw [hW]; exact (Below.refl _ _).alloc (Nat.le_refl _) _
  have hP : PkAt W g p A n c := by rw [hg]; exact (PkAt.new w p A n c).below hb1 (by simp)
  have hZ : ZAt W (g + 1) := by
    have := ZAt.new (w.alloc (pkO p A n c))
    rw [hW, hg]
    simpa using this
  have hs : W.heap.size = g + 2 := by rw [hW, hg]; simp
  have hb0 : Below w.heap.size w W := by rw [hW]; exact ((Below.refl _ _).alloc (Nat.le_refl _) _).alloc (by simp) _
  have HP := Lib.hid hP
  have HZ := Lib.hid hZ
  have HW := Lib.hid hW
  have Hg := Lib.hid hg
  have HS := Lib.hid hs
  have HB := Lib.hid hb0
  have HT := Lib.hid (takes_any p A n c)
  have HBK := Lib.hid (back_any p A n c)
  have h8 := has8_any p A n c
  have h2 := has2_any p A n c
  obtain ⟨c0, c1, c2, c3, c4, c5, c6, c7, c8, c9, c10⟩ := hP
  have HN := Lib.hid hn
  clear hW hg hs hb1 hb0 hn
  unfold pkV
  cases f8 : fl p.flags 3
  · rw [f8] at h8
    have H8 := Lib.hid h8
    clear h8
    go_enter Try.func23, Try.ntmps23
    go_upto_region 1 with fail
    have hW2 : (w.alloc (.cells #[.int .i64 p.src, .int .i64 p.dst, .int .i64 p.sport, .int .i64 p.dport, .int .u32 p.seq, .int .u32 p.ack, .int .i64 p.flags, .int .i64 p.window, .int .i64 p.probe, .int .i64 p.origin, .slice A n c] 25)).alloc (.cells #[.int .i64 0, .int .i64 0, .int .i64 0, .int .i64 0, .int .u32 0, .int .u32 0, .int .i64 0, .int .i64 0, .int .i64 0, .int .i64 0, .slice none 0 0] 25) = W := HW.out.symm
    rw [hW2, ← Hg.out]
    clear hW2
    go_wp2_with fail
    refine (H8.out W).mono ?_
    rintro e w1 ⟨rfl, hb1⟩
    clear c0 c1 c2 c3 c4 c5 c6 c7 c8 c9 c10
    have hP1 := HP.out.below hb1 (by rw [HS.out]; omega)
    have hZ1 := HZ.out.below hb1 (by rw [HS.out]; omega)
    have HP1 := Lib.hid hP1
    obtain ⟨c0, c1, c2, c3, c4, c5, c6, c7, c8, c9, c10⟩ := hP1
    go_wp2_with fail
    refine (HBK.out w1).mono ?_
    rintro e w2 ⟨rfl, hb2⟩
    have hz12 : W.heap.size ≤ w1.heap.size := hb1.size
    have hP2 := HP1.out.below hb2 (by rw [HS.out] at hz12; omega)
    have hZ2 := hZ1.below hb2 (by rw [HS.out] at hz12; omega)
    unfold pkV backP
    go_upto_region 5 with fail
    obtain ⟨w3, hw3⟩ : ∃ w3, w3 = w2.alloc (pkO (refP p 0 0 10) none 0 0) := ⟨_, rfl⟩
    obtain ⟨g4, hg4⟩ : ∃ g4, g4 = w2.heap.size := ⟨_, rfl⟩
    have hz23 : w1.heap.size ≤ w2.heap.size := hb2.size
    have hb23 : Below w2.heap.size w2 w3 := by rw [hw3]; exact (Below.refl _ _).alloc (Nat.le_refl _) _
    have hR3 : RS w g g4 p A n c (refP p 0 0 10) w3 := by
      rw [HS.out] at hz12
      refine ⟨hP2.below hb23 (by omega), by rw [hw3, hg4]; exact PkAt.new _ _ _ _ _, hZ2.below hb23 (by omega), ?_, ?_, ?_, by omega, by rw [hw3, hg4]; simp, Hg.out⟩
      · rw [hw3, hg4]; unfold pkO; simp
      · rw [hw3, hg4]; unfold pkO; simp
      · exact HB.out.trans ((hb1.mono HB.out.size).trans ((hb2.mono (Nat.le_trans HB.out.size hb1.size)).trans (hb23.mono (Nat.le_trans HB.out.size (Nat.le_trans hb1.size hz23)))))
    have hw3' : w2.alloc (.cells #[.int .i64 p.dst, .int .i64 p.src, .int .i64 p.dport, .int .i64 p.sport, .int .u32 0, .int .u32 0, .int .i64 10, .int .i64 0, .int .i64 0, .int .i64 0, .slice none 0 0] 25) = w3 := hw3.symm
    rw [hw3', ← hg4]
    clear hw3 hw3' hg4 hb23 hP2 hZ2 hb2 hb1 c0 c1 c2 c3 c4 c5 c6 c7 c8 c9 c10
    have HR3 := Lib.hid hR3
    have F8 := Lib.hid f8
    clear f8
    go_cut [4] (fun s4 wx => s4 = .pointer (some ⟨g4, 0, none⟩) ∧ RS w g g4 p A n c (refP p 0 ((p.seq + takes p) % 4294967296) 10) wx)
    case first =>
      have hR3d := hR3.drew
      go_region_held3 (fun w' => w'.cell? ⟨g, 0, none⟩ = some (.int .i64 p.src) ∧ w'.cell? ⟨g, 1, none⟩ = some (.int .i64 p.dst) ∧ w'.cell? ⟨g, 2, none⟩ = some (.int .i64 p.sport) ∧ w'.cell? ⟨g, 3, none⟩ = some (.int .i64 p.dport) ∧ w'.cell? ⟨g, 4, none⟩ = some (.int .u32 p.seq) ∧ w'.cell? ⟨g, 5, none⟩ = some (.int .u32 p.ack) ∧ w'.cell? ⟨g, 6, none⟩ = some (.int .i64 p.flags) ∧ w'.cell? ⟨g, 7, none⟩ = some (.int .i64 p.window) ∧ w'.cell? ⟨g, 8, none⟩ = some (.int .i64 p.probe) ∧ w'.cell? ⟨g, 9, none⟩ = some (.int .i64 p.origin) ∧ w'.cell? ⟨g, 10, none⟩ = some (.slice A n c))
        (first | exact ⟨(hR3d).pk.c0, (hR3d).pk.c1, (hR3d).pk.c2, (hR3d).pk.c3, (hR3d).pk.c4, (hR3d).pk.c5, (hR3d).pk.c6, (hR3d).pk.c7, (hR3d).pk.c8, (hR3d).pk.c9, (hR3d).pk.c10⟩ | exact ⟨(hR4).pk.c0, (hR4).pk.c1, (hR4).pk.c2, (hR4).pk.c3, (hR4).pk.c4, (hR4).pk.c5, (hR4).pk.c6, (hR4).pk.c7, (hR4).pk.c8, (hR4).pk.c9, (hR4).pk.c10⟩ | exact ⟨(hR5).pk.c0, (hR5).pk.c1, (hR5).pk.c2, (hR5).pk.c3, (hR5).pk.c4, (hR5).pk.c5, (hR5).pk.c6, (hR5).pk.c7, (hR5).pk.c8, (hR5).pk.c9, (hR5).pk.c10⟩ | fail)
        (first | (go_at_call 25; refine (HT.out _ HN.out hnb).mono ?_; rintro e w4 ⟨rfl, hb4⟩; have hR4 := hR3d.below hb4; have hR5 := hR4.ack (x := IntKind.u32.wrap (p.seq + IntKind.u32.wrap (takes p))); have r5 := hR4.rs.c5; have fr5 := hR4.f5) | fail)
      all_goals
        have hval : IntKind.u32.wrap (p.seq + IntKind.u32.wrap (takes p)) = (p.seq + takes p) % 4294967296 := by rw [wrap_u32, wrap_u32]; omega
        have hR5' : RS w g g4 p A n c (refP p 0 ((p.seq + takes p) % 4294967296) 10) (w4.setCell ⟨g4, 5, none⟩ (.int .u32 (IntKind.u32.wrap (p.seq + IntKind.u32.wrap (takes p))))) := by
          have h9 := hR5
          rw [hval] at h9 ⊢
          exact h9
        clear hval
        go_wp2_with fail
        go_meet
        exact ⟨rfl, hR5'⟩
    case rest =>
      obtain ⟨rfl, hR6⟩ := hcut
      obtain ⟨ak, hak⟩ : ∃ ak, ak = (p.seq + takes p) % 4294967296 := ⟨_, rfl⟩
      rw [← hak] at hR6
      have HAK := Lib.hid hak
      clear hak hR3
      have c0 := hR6.pk.c0
      have c1 := hR6.pk.c1
      have c2 := hR6.pk.c2
      have c3 := hR6.pk.c3
      have c4 := hR6.pk.c4
      have c5 := hR6.pk.c5
      have c6 := hR6.pk.c6
      have c7 := hR6.pk.c7
      have c8 := hR6.pk.c8
      have c9 := hR6.pk.c9
      have c10 := hR6.pk.c10
      cases f1 : fl p.flags 1
      · rw [f1] at h2
        have H2 := Lib.hid h2
        have F1 := Lib.hid f1
        clear h2 f1
        go_wp2_with fail
        refine (H2.out _).mono ?_
        rintro e w7 ⟨rfl, hb7⟩
        have hR7 := hR6.below hb7
        clear c0 c1 c2 c3 c4 c5 c6 c7 c8 c9 c10
        have d0 : w7.cell? ⟨g4, 0, none⟩ = some (.int .i64 p.dst) := hR7.rs.c0
        have d1 : w7.cell? ⟨g4, 1, none⟩ = some (.int .i64 p.src) := hR7.rs.c1
        have d2 : w7.cell? ⟨g4, 2, none⟩ = some (.int .i64 p.dport) := hR7.rs.c2
        have d3 : w7.cell? ⟨g4, 3, none⟩ = some (.int .i64 p.sport) := hR7.rs.c3
        have d4 : w7.cell? ⟨g4, 4, none⟩ = some (.int .u32 0) := hR7.rs.c4
        have d5 : w7.cell? ⟨g4, 5, none⟩ = some (.int .u32 ak) := hR7.rs.c5
        have d6 : w7.cell? ⟨g4, 6, none⟩ = some (.int .i64 10) := hR7.rs.c6
        have d7 : w7.cell? ⟨g4, 7, none⟩ = some (.int .i64 0) := hR7.rs.c7
        have d8 : w7.cell? ⟨g4, 8, none⟩ = some (.int .i64 0) := hR7.rs.c8
        have d9 : w7.cell? ⟨g4, 9, none⟩ = some (.int .i64 0) := hR7.rs.c9
        have d10 : w7.cell? ⟨g4, 10, none⟩ = some (.slice none 0 0) := hR7.rs.c10
        obtain ⟨z0, z1, z2, z3, z4, z5, z6, z7, z8, z9, z10, y0, y1, y2, y3, y4, y5, y6, y7, y8, y9, y10⟩ := hR7.zr
        go_wp2_with fail
        have hr := chain_cells hR7.zr (.int .i64 p.dst) (.int .i64 p.src) (.int .i64 p.dport) (.int .i64 p.sport) (.int .u32 0) (.int .u32 ak) (.int .i64 10) (.int .i64 0) (.int .i64 0) (.int .i64 0) (.slice none 0 0)
        obtain ⟨r0, r1, r2, r3, r4, r5, r6, r7, r8, r9, r10⟩ := hr
        refine bodyPost_ret (v := .tuple #[.agg #[.int .i64 p.dst, .int .i64 p.src, .int .i64 p.dport, .int .i64 p.sport, .int .u32 0, .int .u32 ak, .int .i64 10, .int .i64 0, .int .i64 0, .int .i64 0, .slice none 0 0], .bool true]) ?_ rfl ?_
        · simp [results, Try.results23, go_sem, r0, r1, r2, r3, r4, r5, r6, r7, r8, r9, r10]
        · refine ⟨?_, set11 hR7.bel (by rw [Hg.out]; omega) _ _ _ _ _ _ _ _ _ _ _⟩
          rw [F8.out]
          unfold refuseP
          rw [if_neg (by rw [F8.out]; exact Bool.false_ne_true), if_neg (by rw [F1.out]; exact Bool.false_ne_true), ← HAK.out]
          rfl
      · rw [f1] at h2
        have H2 := Lib.hid h2
        have F1 := Lib.hid f1
        clear h2 f1
        go_wp2_with fail
        refine (H2.out _).mono ?_
        rintro e w7 ⟨rfl, hb7⟩
        have hR7 := hR6.below hb7
        clear c0 c1 c2 c3 c4 c5 c6 c7 c8 c9 c10
        have c5 := hR7.pk.c5
        have d4 : w7.cell? ⟨g4, 4, none⟩ = some (.int .u32 0) := hR7.rs.c4
        have e4 := hR7.f4
        have hR8 := hR7.seq (x := p.ack)
        go_upto_region 8 with fail
        clear c5 d4 e4
        obtain ⟨w8, hw8⟩ : ∃ w8, w8 = w7.setCell ⟨g4, 4, none⟩ (.int .u32 p.ack) := ⟨_, rfl⟩
        rw [← hw8] at hR8 ⊢
        clear hw8
        have d0 : w8.cell? ⟨g4, 0, none⟩ = some (.int .i64 p.dst) := hR8.rs.c0
        have d1 : w8.cell? ⟨g4, 1, none⟩ = some (.int .i64 p.src) := hR8.rs.c1
        have d2 : w8.cell? ⟨g4, 2, none⟩ = some (.int .i64 p.dport) := hR8.rs.c2
        have d3 : w8.cell? ⟨g4, 3, none⟩ = some (.int .i64 p.sport) := hR8.rs.c3
        have d4 : w8.cell? ⟨g4, 4, none⟩ = some (.int .u32 p.ack) := hR8.rs.c4
        have d5 : w8.cell? ⟨g4, 5, none⟩ = some (.int .u32 ak) := hR8.rs.c5
        have d6 : w8.cell? ⟨g4, 6, none⟩ = some (.int .i64 10) := hR8.rs.c6
        have d7 : w8.cell? ⟨g4, 7, none⟩ = some (.int .i64 0) := hR8.rs.c7
        have d8 : w8.cell? ⟨g4, 8, none⟩ = some (.int .i64 0) := hR8.rs.c8
        have d9 : w8.cell? ⟨g4, 9, none⟩ = some (.int .i64 0) := hR8.rs.c9
        have d10 : w8.cell? ⟨g4, 10, none⟩ = some (.slice none 0 0) := hR8.rs.c10
        obtain ⟨z0, z1, z2, z3, z4, z5, z6, z7, z8, z9, z10, y0, y1, y2, y3, y4, y5, y6, y7, y8, y9, y10⟩ := hR8.zr
        go_wp2_with fail
        have hr := chain_cells hR8.zr (.int .i64 p.dst) (.int .i64 p.src) (.int .i64 p.dport) (.int .i64 p.sport) (.int .u32 p.ack) (.int .u32 ak) (.int .i64 10) (.int .i64 0) (.int .i64 0) (.int .i64 0) (.slice none 0 0)
        obtain ⟨r0, r1, r2, r3, r4, r5, r6, r7, r8, r9, r10⟩ := hr
        refine bodyPost_ret (v := .tuple #[.agg #[.int .i64 p.dst, .int .i64 p.src, .int .i64 p.dport, .int .i64 p.sport, .int .u32 p.ack, .int .u32 ak, .int .i64 10, .int .i64 0, .int .i64 0, .int .i64 0, .slice none 0 0], .bool true]) ?_ rfl ?_
        · simp [results, Try.results23, go_sem, r0, r1, r2, r3, r4, r5, r6, r7, r8, r9, r10]
        · refine ⟨?_, set11 hR8.bel (by rw [Hg.out]; omega) _ _ _ _ _ _ _ _ _ _ _⟩
          rw [F8.out]
          unfold refuseP
          rw [if_neg (by rw [F8.out]; exact Bool.false_ne_true), if_pos F1.out, ← HAK.out]
          rfl
  · rw [f8] at h8
    have H8 := Lib.hid h8
    have F8 := Lib.hid f8
    clear h8 f8
    go_enter Try.func23, Try.ntmps23
    go_upto_region 1 with fail
    have hW2 : (w.alloc (.cells #[.int .i64 p.src, .int .i64 p.dst, .int .i64 p.sport, .int .i64 p.dport, .int .u32 p.seq, .int .u32 p.ack, .int .i64 p.flags, .int .i64 p.window, .int .i64 p.probe, .int .i64 p.origin, .slice A n c] 25)).alloc (.cells #[.int .i64 0, .int .i64 0, .int .i64 0, .int .i64 0, .int .u32 0, .int .u32 0, .int .i64 0, .int .i64 0, .int .i64 0, .int .i64 0, .slice none 0 0] 25) = W := HW.out.symm
    rw [hW2, ← Hg.out]
    clear hW2
    go_wp2_with fail
    refine (H8.out W).mono ?_
    rintro e w1 ⟨rfl, hb1⟩
    clear c0 c1 c2 c3 c4 c5 c6 c7 c8 c9 c10
    have hP1 := HP.out.below hb1 (by rw [HS.out]; omega)
    have hZ1 := HZ.out.below hb1 (by rw [HS.out]; omega)
    have HP1 := Lib.hid hP1
    obtain ⟨c0, c1, c2, c3, c4, c5, c6, c7, c8, c9, c10⟩ := hP1
    have hZ1' := hZ1
    obtain ⟨z0, z1, z2, z3, z4, z5, z6, z7, z8, z9, z10, y0, y1, y2, y3, y4, y5, y6, y7, y8, y9, y10⟩ := hZ1'
    go_wp2_with fail
    have hr := chain_cells hZ1 (.int .i64 0) (.int .i64 0) (.int .i64 0) (.int .i64 0) (.int .u32 0) (.int .u32 0) (.int .i64 0) (.int .i64 0) (.int .i64 0) (.int .i64 0) (.slice none 0 0)
    obtain ⟨r0, r1, r2, r3, r4, r5, r6, r7, r8, r9, r10⟩ := hr
    refine bodyPost_ret (v := .tuple #[.agg #[.int .i64 0, .int .i64 0, .int .i64 0, .int .i64 0, .int .u32 0, .int .u32 0, .int .i64 0, .int .i64 0, .int .i64 0, .int .i64 0, .slice none 0 0], .bool false]) ?_ rfl ?_
    · simp [results, Try.results23, go_sem, r0, r1, r2, r3, r4, r5, r6, r7, r8, r9, r10]
    · refine ⟨by rw [F8.out]; unfold refuseP; rw [if_pos F8.out]; rfl, ?_⟩
      exact set11 (HB.out.trans (hb1.mono HB.out.size)) (by rw [Hg.out]; omega) _ _ _ _ _ _ _ _ _ _ _
end Go.Proofs.Ytjpdamighffgfaa.pk
