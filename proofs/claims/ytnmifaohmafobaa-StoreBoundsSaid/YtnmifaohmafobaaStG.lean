/- A row: a chunk is taken out; a chunk is put in. -/
import Derived.Test.YtnmifaohmafobaaStF
namespace Go.Proofs.Ytnmifaohmafobaa.st
open Go.RowKit Mem SM
open Go.Maps (Keyed)
set_option linter.unusedVariables false
variable {w w' : World}
/-- what a datum says of the numbers of these digests -/
structure MapD (D : DD) (ns : List Nat) (sm : Nat → List UInt8) : Prop where
  tidy : Maps.Tidy D
  size : Maps.size D = ns.length
  hit : ∀ n ∈ ns, D.atKey (kl (sm n)) (num 0) = num n
  miss : ∀ s : List UInt8, s.length = 32 → (∀ n ∈ ns, sm n ≠ s) → D.atKey (kl s) (num 0) = num 0 ∧ Maps.has D (kl s) = false
theorem num_inj {a b : Nat} (h : num a = num b) : a = b := by
  simp only [num, DataW.lit.injEq, Lit.int.injEq, true_and] at h
  omega
theorem MapB.datum {mb : Nat} {ns : List Nat} {sm : Nat → List UInt8} (h : MapB w mb ns sm) : ∃ D : DD, w.ownsMap Try.prog 40 (plainElem Try.prog 3) mb ns.length D ∧ MapD D ns sm := by
  obtain ⟨D, h1, h2, h3, h4⟩ := h
  exact ⟨D, h1, h1.tidy sumKeyed, h2, h3, h4⟩
theorem MapB.of {mb k : Nat} {ns : List Nat} {sm : Nat → List UInt8} {D : DD} (h : w.ownsMap Try.prog 40 (plainElem Try.prog 3) mb k D) (hd : MapD D ns sm) : MapB w mb ns sm := by
  refine ⟨D, ?_, hd.size, hd.hit, hd.miss⟩
  obtain ⟨es, clock, hb, F, hs, hD⟩ := h
  refine ⟨es, clock, hb, F, ?_, hD⟩
  have := hd.size
  rw [hD] at this
  simp [Maps.size, length_sorted] at this
  omega
theorem MapD.has {D : DD} {ns : List Nat} {sm : Nat → List UInt8} (h : MapD D ns sm) {n : Nat} (hn : n ∈ ns) (h0 : n ≠ 0) : Maps.has D (kl (sm n)) = true := by
  cases hh : Maps.has D (kl (sm n)) with
  | true => rfl
  | false =>
    have h1 := Maps.atKey_of_not_has hh (num 0)
    rw [h.hit n hn] at h1
    exact absurd (num_inj h1) h0
theorem MapD.del {D : DD} {xs ys : List Nat} {n : Nat} {sm : Nat → List UInt8} (h : MapD D (xs ++ n :: ys) sm) (h0 : n ≠ 0) (hl : ∀ m ∈ xs ++ n :: ys, (sm m).length = 32) (hne : ∀ m ∈ xs ++ ys, sm m ≠ sm n) : MapD (D.del (kl (sm n))) (xs ++ ys) sm := by
  have hin : ∀ m, m ∈ xs ++ ys → m ∈ xs ++ n :: ys := fun m hm => by
    rcases List.mem_append.1 hm with e | e
    · exact List.mem_append_left _ e
    · exact List.mem_append_right _ (List.mem_cons_of_mem _ e)
  have hn : n ∈ xs ++ n :: ys := List.mem_append_right _ (by simp)
  refine ⟨h.tidy.del _, ?_, fun m hm => ?_, fun s hs hm => ?_⟩
  · have h1 := Maps.size_del (k := kl (sm n)) h.tidy
    rw [if_pos (h.has hn h0), h.size] at h1
    simp at h1 ⊢
    omega
  · rw [Maps.atKey_del_other (fun e => hne m hm (kl_inj (hl m (hin m hm)) (hl n hn) e))]
    exact h.hit m (hin m hm)
  · by_cases e : s = sm n
    · subst e
      exact ⟨Maps.atKey_del_same _, Maps.has_del_same⟩
    · have hk : kl s ≠ kl (sm n) := fun e1 => e (kl_inj hs (hl n hn) e1)
      rw [Maps.atKey_del_other hk, Maps.has_del_other hk]
      refine h.miss s hs (fun m hm2 => ?_)
      rcases List.mem_append.1 hm2 with e2 | e2
      · exact hm m (List.mem_append_left _ e2)
      · rcases List.mem_cons.1 e2 with e3 | e3
        · rw [e3]; exact fun e4 => e e4.symm
        · exact hm m (List.mem_append_right _ e3)
theorem MapD.put {D : DD} {ns : List Nat} {n : Nat} {sm sf : Nat → List UInt8} {s : List UInt8} (h : MapD D ns sm) (hs : s.length = 32) (hl : ∀ m ∈ ns, (sm m).length = 32) (hne : ∀ m ∈ ns, sm m ≠ s) (hf : sf n = s) (hfo : ∀ m ∈ ns, sf m = sm m) : MapD (D.put (kl s) (num n)) (ns ++ [n]) sf := by
  obtain ⟨hm1, hm2⟩ := h.miss s hs hne
  refine ⟨h.tidy.put (kl_lit hs) _, ?_, fun m hm => ?_, fun t ht hm => ?_⟩
  · rw [Maps.size_put h.tidy, hm2, h.size]
    simp
  · rcases List.mem_append.1 hm with e | e
    · rw [hfo m e, Maps.atKey_put_other (fun e1 => hne m e (kl_inj (hl m e) hs e1))]
      exact h.hit m e
    · rw [List.mem_singleton.1 e, hf, Maps.atKey_put_same h.tidy.isMap (kl_lit hs)]
  · have hts : t ≠ s := fun e => hm n (by simp) (hf.trans e.symm)
    have hk : kl t ≠ kl s := fun e => hts (kl_inj ht hs e)
    rw [Maps.atKey_put_other hk, Maps.has_put_other hk]
    exact h.miss t ht (fun m hm2 => by rw [← hfo m hm2]; exact hm m (List.mem_append_left _ hm2))
/-- in a region that draws its order, ahead of its last store: a load of many cells -/
theorem s_load {P : Program} {ops : Array Oper} {w : World} {Q : Act → Prop} {o : Oper} {rest : List Oper} {a : Act} (hgd : o.guard = none) (ty : TypeId) (x : Operand) (ho : o.op = .load ty x)
    (b off : Nat) (hx : a.eval x = .pointer (some ⟨b, off, none⟩)) (cs : List Value) (d : TypeDesc) (hc : w.rangeAt b off cs) (hu : P.underlying ty = some d) (hd : d.isRow = true) (hi : (P.info? ty).map (·.size) = some cs.length)
    (h : wpStill P ops w Q rest (a.put o.dst (.agg cs.toArray))) : wpStill P ops w Q (o :: rest) a := by
  have hw : Region.wanted o (yielded ops a.tmps) = true := by simp [Region.wanted, hgd]
  unfold wpStill
  rw [if_pos hw]
  unfold Oper.still execOp
  simp only [ho, hx, Instr.loadAt, Instr.sureAddr, Sem.run_bind, Sem.run_pure, Result.andThen_ok, run_loadVar_mid w b off ty cs d hc hu hd hi]
  exact ⟨rfl, h⟩
theorem Kept.or {w w1 w2 : World} {bad bad' : Nat → Prop} (h : Kept w w1 bad) (k : Kept w1 w2 bad') : Kept w w2 (fun i => bad i ∨ bad' i) :=
  (h.more (fun i _ e => Or.inl e)).trans (k.more (fun i _ e => Or.inr e)) (fun _ _ e => e)
def zeroE : Ent := ⟨List.replicate 32 0, [], 0⟩
def zeroD : Sl := ⟨none, 0, 0⟩
theorem nv_app (l k : List Nat) : nv (l ++ k) = nv l ++ nv k := by simp [nv]
theorem zero_chunk (w : World) : (zeroValue 73).run Try.prog w = .ok (.agg (ckL zeroE zeroD 0 0).toArray) w := by kernel_rfl
section
variable {O : Nat → Prop} {r g M mb fc S : Nat} {FA : Option Addr} {E : Nat → Ent} {D : Nat → Sl} {ns fs ms : List Nat} {sf : Nat → List UInt8} {ah bh : Nat → Nat}
theorem grow_kept {A A' : Option Addr} {o : Obj} (hg : Grew (w.alloc o) w' A A') : Kept w w' (fun k => blk A = some k) :=
  (Kept.of (World.grownBy_alloc w o (blk A))).trans (Kept.of hg.1) (fun _ _ h => h)
theorem MapB.congr {mb : Nat} {ns : List Nat} {sm sf : Nat → List UInt8} (h : MapB w mb ns sm) (he : ∀ m ∈ ns, sf m = sm m) : MapB w mb ns sf := by
  obtain ⟨D, h1, h2, h3, h4⟩ := h
  exact ⟨D, h1, h2, fun m hm => by rw [he m hm]; exact h3 m hm, fun t ht hm => h4 t ht (fun m hm2 => by rw [← he m hm2]; exact hm m hm2)⟩
theorem RowG.own {O' : Nat → Prop} (h : RowG w O r g M mb FA fc E D fs S ms sf ah bh) (ho : ∀ i, O i → O' i) : RowG w O' r g M mb FA fc E D fs S ms sf ah bh :=
  ⟨h.link, h.sm, h.len, h.dc, h.dn, h.dr, fun n hn i hi => ⟨ho i (h.da n hn i hi).1, (h.da n hn i hi).2⟩, h.hd, h.c1, h.fo, fun i hi => ⟨ho i (h.fb i hi).1, (h.fb i hi).2⟩, h.c2, h.mp, h.c3, h.rz, ⟨ho _ h.ors.1, ho _ h.ors.2.1, ho _ h.ors.2.2⟩, h.mr, h.mle, h.dm⟩
/-- what remove leaves -/
def RemPost (O : Nat → Prop) (r g M mb : Nat) (E : Nat → Ent) (D : Nat → Sl) (xs ys fs : List Nat) (n : Nat) (w : World) (e : Ending) (w' : World) : Prop :=
  e = .returned (.tuple #[]) ∧ ∃ FA' fc', RowB w' (fun i => O i ∨ w.heap.size ≤ i) r g M mb FA' fc' (updE E n zeroE) (updE D n zeroD) (xs ++ ys) (fs ++ [n]) ∧ Kept w w' O
set_option maxRecDepth 100000 in
set_option maxHeartbeats 4000000 in
theorem remove_any (n : Nat) (xs ys : List Nat) (w : World) (h : RowB w O r g M mb FA fc E D (xs ++ n :: ys) fs) (hT : total ((xs ++ n :: ys).map E) ≤ 8192) :
    Calls Try.prog 48 #[.pointer (some ⟨r, 0, none⟩), .int .i64 (n : Nat)] w (RemPost O r g M mb E D xs ys fs n w) := by
  obtain ⟨ah, bh, hc, hG⟩ := h.toG
  obtain ⟨h1, hnM⟩ := h.mem (Or.inl (List.mem_append_right _ (List.mem_cons_self (a := n) (l := ys))))
  have hM := h.mle.2
  obtain ⟨ma, mb', _⟩ := chain_at n ys xs 0 hc
  have haM : ah n ≤ M := by
    rcases List.mem_cons.1 ma with e | e
    · omega
    · exact (h.mem (Or.inl (List.mem_append_left _ e))).2
  have hbM : bh n ≤ M := by
    rcases List.mem_cons.1 mb' with e | e
    · omega
    · exact (h.mem (Or.inl (List.mem_append_right _ (List.mem_cons_of_mem _ e)))).2
  have hu := chain_unlink n ys xs 0 hc h.ring (List.nodup_cons.1 h.ring).1
  have HU := Lib.hid (unlink_any n w hG.link hnM haM hbM hM)
  have HG := Lib.hid hG
  have HC := Lib.hid hu
  have hn1 : (n : Int) < ((M + 1 : Nat) : Int) := by omega
  have hn2 : n < M + 1 := by omega
  have hn3 : (n : Int) < (M : Int) + 1 := by omega
  have HH := Lib.hid h
  have hdn : (D n).n = (E n).data.length := by have := (h.dr n hnM).len; rw [bv_len] at this; exact this.symm
  have htt : total ((xs ++ n :: ys).map E) = total ((xs ++ ys).map E) + (E n).data.length := by
    rw [List.map_append, List.map_append, total_append, total_append, List.map_cons, total_cons]; omega
  have HTT := Lib.hid htt
  clear h hG hc hu ma mb'
  obtain ⟨T0, hT0⟩ : ∃ T0, total ((xs ++ n :: ys).map E) = T0 := ⟨_, rfl⟩
  obtain ⟨T1, hT1⟩ : ∃ T1, total ((xs ++ ys).map E) = T1 := ⟨_, rfl⟩
  rw [hT0] at HG hT htt
  rw [hT1] at htt
  have HT1 := Lib.hid hT1
  clear hT0 hT1
  go_enter Try.func48, Try.ntmps48
  go_wp2_with (go_at_call 53; refine HU.out.mono ?_; clear HU; rintro e w1 ⟨rfl, hL1, hR1⟩)
  have hG1 := HG.out.relink hL1 hR1
  have HK1 := Lib.hid hR1.kept
  have HG1 := Lib.hid hG1
  have e0 := hG1.link.c0
  have e1 := hG1.dc n hnM
  have e3 := hG1.c3
  have ez := hG1.rz 3
  clear hL1 hR1 hG1
  have hsub : (T0 : Int) - ((D n).n : Nat) = ((T1 : Nat) : Int) := by omega
  clear htt hdn
  go_region
  have hG2 := (HG1.out.setR T1).kept (Kept.drew _ (fun _ => False)) (fun _ _ _ e => e)
  have hK2 : Kept w (w1.setCell ⟨r, 3, none⟩ (.int .i64 (T1 : Int))).drew O := ((HK1.out.or (Kept.set w1 r 3 (.int .i64 (T1 : Int)))).or (Kept.drew _ (fun _ => False))).more (fun i _ e => by
    rcases e with (e | e) | e
    · rw [e]; exact HG.out.ors.2.1
    · rw [e]; exact HG.out.ors.1
    · exact e.elim)
  clear e0 e1 e3 ez
  generalize (w1.setCell ⟨r, 3, none⟩ (.int .i64 (T1 : Int))).drew = w2 at *
  have HG2 := Lib.hid hG2
  have HK2 := Lib.hid hK2
  have f0 := hG2.link.c0
  have f2 := hG2.c2
  have hsm := hG2.sm n hnM
  have hlen : (bv (E n).sum).length = 32 := by rw [bv_len]; exact hG2.len n hnM
  have hkey := key_of (E n).sum (hG2.len n hnM)
  obtain ⟨DM, hown, hMD⟩ := hG2.mp.datum
  have HOWN := Lib.hid hown
  have HMD := Lib.hid hMD
  obtain ⟨XS, hXS⟩ : ∃ XS, bv (E n).sum = XS := ⟨_, rfl⟩
  rw [hXS] at hsm hlen hkey
  have HSM := Lib.hid hsm
  have HKEY := Lib.hid hkey
  clear hG2 hK2 hsm hown hMD hkey hXS HG1 HK1
  go_wp2_with fail
  refine wp_region_still_tail 12 (by kernel_rfl) (by kernel_rfl) ?_
  simp only [List.take_succ_cons, List.take_zero, List.drop_succ_cons, List.drop_zero]
  repeat still_step
  refine s_load rfl 40 (.tmp 33) rfl g (n * 36) rfl XS _ HSM.out Try.underlying40 rfl (by rw [hlen]; exact info_sum) ?_
  go_simp
  refine wpStill_nil ?_
  change wpList _ _ _ _ _ w2.drew
  have hG3 := HG2.out.kept (Kept.drew _ (fun _ => False)) (fun _ _ _ e => e)
  have hown3 := HOWN.out.drew
  have hK3 := (HK2.out.or (Kept.drew w2 (fun _ => False))).more (bad' := O) (fun i _ e => e.elim id False.elim)
  clear HOWN HG2 HK2 f0 f2
  generalize w2.drew = w3 at *
  have HG3 := Lib.hid hG3
  have HK3 := Lib.hid hK3
  have HOWN3 := Lib.hid hown3
  clear hG3 hK3 hown3
  refine wpList_delete_own _ rfl _ _ 58 40 rfl 3 sumKeyed Try.underlying58 _ mb _ DM rfl HOWN3.out (.agg XS.toArray) (kl (E n).sum) rfl HKEY.out ?_
  intro w4 hown4 hturn4
  have hn0 : n ≠ 0 := by omega
  have hlens : ∀ m ∈ xs ++ n :: ys, ((fun n => (E n).sum) m).length = 32 := fun m hm => HH.out.len m (HH.out.mem (Or.inl hm)).2
  have hoth : ∀ m ∈ xs ++ ys, (E m).sum ≠ (E n).sum := by
    intro m hm e
    have hd := HH.out.dj
    unfold sums at hd
    rw [List.map_map, List.map_append, List.map_cons, List.nodup_append] at hd
    obtain ⟨_, d2, d3⟩ := hd
    rcases List.mem_append.1 hm with h1 | h1
    · exact d3 _ (List.mem_map.2 ⟨m, h1, rfl⟩) _ (by simp) e
    · exact (List.nodup_cons.1 d2).1 (List.mem_map.2 ⟨m, h1, e⟩)
  have hMD4 := HMD.out.del hn0 hlens hoth
  have hG4 := HG3.out.map hturn4.grown (MapB.of hown4 hMD4)
  have hK4 := (HK3.out.or (Kept.of hturn4.grown)).more (bad' := O) (fun i _ e => e.elim id (fun e => by injection e with e; rw [← e]; exact HG.out.ors.2.2))
  have HG4 := Lib.hid hG4
  have HK4 := Lib.hid hK4
  have q0 := hG4.link.c0
  have hthere := hG4.there hnM
  have hzc := zero_chunk
  have hz36 : (ckL zeroE zeroD 0 0).length = 36 := ckL_len _ _ _ _ (by simp [zeroE])
  have hzone : ∀ v ∈ ckL zeroE zeroD 0 0, v.oneCell' = true := by
    unfold ckL
    intro v hv
    rcases List.mem_append.1 hv with hv | hv
    · exact bv_one _ v hv
    · simp at hv; rcases hv with rfl | rfl | rfl <;> rfl
  clear HG3 HK3 HOWN3 hown4 hturn4 hMD4 hG4 hK4 hoth hlens HKEY HSM HMD
  obtain ⟨Z, hZ⟩ : ∃ Z, ckL zeroE zeroD 0 0 = Z := ⟨_, rfl⟩
  have HZ := Lib.hid hZ
  rw [hZ] at hzc hz36 hzone
  obtain ⟨ZA, hZA⟩ : ∃ ZA, Z.toArray = ZA := ⟨_, rfl⟩
  have HZA := Lib.hid hZA
  rw [hZA] at hzc
  have hzs : ZA.size = 36 := by rw [← hZA]; simpa using hz36
  have hzo : ZA.all (·.oneCell') = true := by rw [← hZA]; exact all_oneCell_toArray hzone
  have HZS := Lib.hid (And.intro hzs hzo)
  have HTH := Lib.hid hthere
  clear hZ hZA hz36 hzone hzs hzo hthere
  have hfl : fs.length ≤ 64 := by have := HH.out.count; omega
  have hZE : ZA.toList = ckL zeroE zeroD 0 0 := by rw [HZ.out, ← HZA.out]
  have HZE := Lib.hid hZE
  clear hZE
  go_wp2_with (first
    | (refine wpList_store_mid rfl 73 (.tmp 41) (.tmp 40) rfl g (n * 36) ZA rfl rfl (by rw [HZS.out.1]; exact HTH.out) (by rw [HZS.out.1]; exact info_chunk) HZS.out.2 ?_; rw [HZE.out]; have hG5 := HG4.out.setE n hnM zeroE zeroD 0 0 (by simp [zeroE]) (Nat.le_refl _) (Rd.nil _ _ _) (fun i hi => by simp [zeroD, blk] at hi) (by simp [zeroE]); have hK5 := ((HK4.out.or (kept_setCells g (ckL zeroE zeroD 0 0) (n * 36) w4)).more (bad' := O) (fun i _ e => e.elim id (fun e => by rw [e]; exact HG.out.ors.2.1))); clear HTH HG4 HK4 q0; generalize w4.setCells g (n * 36) (ckL zeroE zeroD 0 0) = w5 at *; have q1 := hG5.c1; have q2 := hG5.rz 1; have qo := hG5.fo; have ql := hG5.lt; have nr : blk FA ≠ some r := fun e => (hG5.fb r e).2.1 rfl; have HG5 := Lib.hid hG5; have HK5 := Lib.hid hK5; clear hG5 hK5)
    | (at_builtin; refine wp_app i64ty rfl (.tmp 46) (.tmp 48) rfl rfl rfl (qo.alloc _) (Rd.one _ _ _) (one1 rfl) (by omega) (by omega) (by simp) ?_; intro A' N k' w6 ho6 hN6 hb6 hg6; have K6 := grow_kept hg6; have e1 := (K6.cell (a := ⟨r, 1, none⟩) ql.1 nr).trans q1; have e2 := (K6.frozen (a := ⟨r, 1, none⟩) ql.1 nr).trans q2)
    | fail)
  have hN : N = (fs ++ [n]).length := by
    have := ho6.len
    rw [List.length_append, nv_len] at this
    simp at this ⊢; omega
  subst hN
  have hG7 := HG5.out.setF K6 (by rw [nv_app]; exact ho6) (hg6.2.imp id (fun ⟨i, h, e⟩ => ⟨i, by simp at h; omega, e⟩))
  have hK7 : Kept w (w6.setCell ⟨r, 1, none⟩ (.slice A' (fs ++ [n]).length k')) O := (((HK5.out.or K6).or (Kept.set w6 r 1 _))).more (fun i _ e => by
    rcases e with (e | e) | e
    · exact e
    · exact (HG5.out.fb i e).1
    · rw [e]; exact HG.out.ors.1)
  have hnx : ∀ m ∈ xs ++ ys, m ≠ n := by
    intro m hm e
    subst e
    have hd := (List.nodup_cons.1 HH.out.ring).2
    rw [List.nodup_append] at hd
    rcases List.mem_append.1 hm with h1 | h1
    · exact hd.2.2 m h1 m (by simp) rfl
    · exact (List.nodup_cons.1 hd.2.1).1 h1
  have hmap : (xs ++ ys).map (updE E n zeroE) = (xs ++ ys).map E := List.map_congr_left (fun m hm => updE_other _ _ (hnx m hm))
  go_end0
  refine ⟨rfl, A', k', ?_, hK7⟩
  refine (hG7.own (O' := fun i => O i ∨ w.heap.size ≤ i) (fun i h => h.imp id (fun h => Nat.le_trans HK5.out.size h))).toB ?_ ?_ ?_ ?_ ?_
  · refine chain_congr _ _ HC.out (fun m hm => upd_other _ _ ?_) (fun m hm => upd_other _ _ ?_)
    · rcases List.mem_cons.1 hm with e | e
      · omega
      · exact hnx m e
    · rcases List.mem_cons.1 hm with e | e
      · omega
      · exact hnx m e
  · refine MapB.congr hG7.mp (fun m hm => ?_)
    show (updE E n zeroE m).sum = (E m).sum
    rw [updE_other _ _ (hnx m hm)]
  · rw [hmap, HT1.out]
  · refine List.Perm.trans ?_ HH.out.pm
    rw [List.append_assoc, List.append_assoc, List.cons_append]
    refine List.Perm.append_left xs ?_
    rw [← List.append_assoc]
    exact List.perm_append_comm
  · rw [hmap]
    have hd := HH.out.dj
    refine List.Sublist.nodup ?_ hd
    unfold sums
    rw [List.map_append, List.map_append, List.map_append, List.map_append, List.map_cons, List.map_cons]
    exact (List.Sublist.refl _).append (List.sublist_cons_self _ _)
end
end Go.Proofs.Ytnmifaohmafobaa.st
