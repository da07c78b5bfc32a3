/- A store: what a call leaves of a row: used, held. -/
import Derived.Test.YtnmifaohmafobaaStH
namespace Go.Proofs.Ytnmifaohmafobaa.st
open Go.RowKit Mem SM
open Go.Maps (Keyed)
set_option linter.unusedVariables false
variable {w w' : World}
section
variable {O : Nat → Prop} {r g M mb fc S : Nat} {FA : Option Addr} {E : Nat → Ent} {D : Nat → Sl} {ns fs ms : List Nat} {sf : Nat → List UInt8} {ah bh : Nat → Nat}
theorem MapB.perm {mb : Nat} {ns ms : List Nat} {sm : Nat → List UInt8} (h : MapB w mb ns sm) (hp : ms.Perm ns) : MapB w mb ms sm := by
  obtain ⟨D, h1, h2, h3, h4⟩ := h
  exact ⟨D, by rw [hp.length_eq]; exact h1, by rw [h2, hp.length_eq], fun n hn => h3 n (hp.mem_iff.1 hn), fun t ht hm => h4 t ht (fun n hn => hm n (hp.mem_iff.2 hn))⟩
theorem total_perm {L K : List Ent} (h : L.Perm K) : total L = total K := by
  unfold total
  exact (h.map _).sum_nat
theorem rowuse_any (n : Nat) (xs ys : List Nat) (w : World) (h : RowB w O r g M mb FA fc E D (xs ++ n :: ys) fs) :
    Calls Try.prog 44 #[.pointer (some ⟨r, 0, none⟩), .int .i64 (n : Nat)] w fun e w' => e = .returned (.tuple #[]) ∧ RowB w' O r g M mb FA fc E D (xs ++ ys ++ [n]) fs ∧ Kept w w' O := by
  obtain ⟨ah, bh, hc, hG⟩ := h.toG
  obtain ⟨h1, hnM⟩ := h.mem (Or.inl (List.mem_append_right _ (List.mem_cons_self (a := n) (l := ys))))
  obtain ⟨ma, mb', _⟩ := chain_at n ys xs 0 hc
  have hring := h.ring
  have h0 := (List.nodup_cons.1 hring).1
  have haM : ah n ≤ M := by
    rcases List.mem_cons.1 ma with e | e
    · omega
    · exact (h.mem (Or.inl (List.mem_append_left _ e))).2
  have hbM : bh n ≤ M := by
    rcases List.mem_cons.1 mb' with e | e
    · omega
    · exact (h.mem (Or.inl (List.mem_append_right _ (List.mem_cons_of_mem _ e)))).2
  have hu := chain_unlink n ys xs 0 hc hring h0
  have hl := chain_last _ _ hu
  have hsub : ∀ m, m ∈ xs ++ ys → m ∈ xs ++ n :: ys := fun m hm => by
    rcases List.mem_append.1 hm with e | e
    · exact List.mem_append_left _ e
    · exact List.mem_append_right _ (List.mem_cons_of_mem _ e)
  have hnx : n ∉ xs ++ ys := by
    have hd := (List.nodup_cons.1 hring).2
    rw [List.nodup_append] at hd
    intro hm
    rcases List.mem_append.1 hm with e | e
    · exact hd.2.2 n e n (by simp) rfl
    · exact (List.nodup_cons.1 hd.2.1).1 e
  have hp : (xs ++ ys ++ [n]).Perm (xs ++ n :: ys) := by
    rw [List.append_assoc]
    exact List.Perm.append_left xs List.perm_append_comm
  refine (use_any n w hG.link hnM haM hbM h.mle.2 ?_ ?_ (by omega)).mono ?_
  · rcases List.mem_cons.1 hl with e | e
    · omega
    · exact (h.mem (Or.inl (hsub _ e))).2
  · intro e
    rw [e] at hl
    rcases List.mem_cons.1 hl with e | e
    · omega
    · exact hnx e
  · rintro e w1 ⟨rfl, hL, hR⟩
    refine ⟨rfl, (hG.relink hL hR).toB (chain_use n xs ys hc hring) (MapB.perm (hR.kept.map h.mp h.mr.2) hp) ?_ ?_ ?_, hR.kept.more (fun i _ e => by rw [e]; exact h.ors.2.1)⟩
    · exact (total_perm (hp.map E)).symm
    · exact (hp.append_right fs).trans h.pm
    · exact ((hp.map E).map (fun e : Ent => e.sum)).symm.nodup h.dj
theorem RowB.setH (h : RowB w O r g M mb FA fc E D ns fs) (n : Nat) (hn : n ≤ M) (k : Nat) :
    RowB (w.setCell ⟨g, n * 36 + 33, none⟩ (.int .i64 (k : Nat))) O r g M mb FA fc (updE E n { E n with held := k }) D ns fs := by
  obtain ⟨l1, l2, l3⟩ := h.lt
  obtain ⟨ah, bh, hl, hc⟩ := h.link
  have K := Kept.set w g (n * 36 + 33) (.int .i64 (k : Nat))
  have hne := hl.ne
  have hsum : ∀ m, (updE E n { E n with held := k } m).sum = (E m).sum := fun m => by
    by_cases e : m = n
    · subst e; rw [updE_same]
    · rw [updE_other _ _ e]
  have hdat : ∀ m, (updE E n { E n with held := k } m).data = (E m).data := fun m => by
    by_cases e : m = n
    · subst e; rw [updE_same]
    · rw [updE_other _ _ e]
  have hsums : sums (ns.map (updE E n { E n with held := k })) = sums (ns.map E) := by
    unfold sums; rw [List.map_map, List.map_map]; exact List.map_congr_left (fun m _ => hsum m)
  have htot : total (ns.map (updE E n { E n with held := k })) = total (ns.map E) := by
    unfold total; rw [List.map_map, List.map_map]; congr 1; exact List.map_congr_left (fun m _ => by simp only [Function.comp]; rw [hdat])
  refine ⟨⟨ah, bh, ⟨?_, fun m hm => ?_, fun m hm => ?_, fun o => by rw [frozen_set]; exact hl.gz o, hne⟩, hc⟩, fun m hm j v hv => ?_, fun m hm => by rw [hsum]; exact h.len m hm, fun m hm => ?_, h.dn, fun m hm => ?_, fun m hm i hi => ?_, fun m hm => ?_, ?_, K.ow h.fo (fun i hi e => (h.fb i hi).2.2.1 e), h.fb, ?_, ?_, ?_, fun o => by rw [frozen_set]; exact h.rz o, h.pm, by rw [hsums]; exact h.dj, h.ors, h.mr, h.mle, fun m hm => by rw [hdat]; exact h.dm m hm⟩
  · rw [K.cell (a := ⟨r, 0, none⟩) l1 hne]; exact hl.c0
  · rw [World.cell?_setCell_other _ _ _ _ (ne_off (by omega))]; exact hl.ah m hm
  · rw [World.cell?_setCell_other _ _ _ _ (ne_off (by omega))]; exact hl.bh m hm
  · rw [hsum] at hv
    have hj : j < 32 := by
      have h1 := (List.getElem?_eq_some_iff.1 hv).1
      rw [bv_len, h.len m hm] at h1; exact h1
    rw [World.cell?_setCell_other _ _ _ _ (ne_off (by omega))]; exact h.sm m hm j v hv
  · rw [World.cell?_setCell_other _ _ _ _ (ne_off (by omega))]; exact h.dc m hm
  · rw [hdat]; exact (K.rd (h.dr m hm) (Nat.le_refl _) (fun i hi _ e => (h.da m hm i hi).2.2.1 e)).more K.size
  · obtain ⟨a1, a2, a3, a4, a5, a6⟩ := h.da m hm i hi
    exact ⟨a1, a2, a3, a4, a5, Nat.lt_of_lt_of_le a6 K.size⟩
  · by_cases e : m = n
    · subst e; rw [updE_same]; exact World.cell?_setCell_same _ _ _ (h.hd m hm)
    · rw [updE_other _ _ e, World.cell?_setCell_other _ _ _ _ (ne_off (by omega))]; exact h.hd m hm
  · rw [K.cell (a := ⟨r, 1, none⟩) l1 hne]; exact h.c1
  · rw [K.cell (a := ⟨r, 2, none⟩) l1 hne]; exact h.c2
  · refine MapB.congr (K.map h.mp h.mr.2) (fun m hm => hsum m)
  · rw [htot, K.cell (a := ⟨r, 3, none⟩) l1 hne]; exact h.c3
end
end Go.Proofs.Ytnmifaohmafobaa.st
