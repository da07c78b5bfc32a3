/- A store behind calls. -/
import Derived.Test.YtnmifaohmafobaaStZ
namespace Go.Proofs.Ytnmifaohmafobaa.st
open Go.RowKit Go.Shelf Mem SM
set_option linter.unusedVariables false
attribute [local go_sem] Oper.semAt_some
variable {w0 w w' y : World} {O : Nat → Prop} {s M R : Nat} {L : List Ent}
theorem mem_shrink {M R d : Nat} : ∀ (f : Nat) {L : List Ent} {e : Ent}, e ∈ shrink M R d f L → e ∈ L
  | 0, _, _, h => h
  | f + 1, L, e, h => by
    have h1 : shrink M R d (f + 1) L = if M ≤ L.length ∨ R < total L + d then shrink M R d f (L.eraseP isFree) else L := rfl
    rw [h1] at h
    split at h
    · exact List.mem_of_mem_eraseP (mem_shrink f h)
    · exact h
theorem held_do {H : Nat} (k : DoV) (h : ∀ e ∈ L, e.held ≤ H) : ∀ e ∈ doL k M R L, e.held ≤ H + 1 := by
  have huse : ∀ (t : List UInt8), ∀ e ∈ SM.use t L, e.held ≤ H + 1 := fun t e he => by
    unfold SM.use at he
    rcases List.mem_append.1 he with he | he
    · have := h e (List.mem_filter.1 he).1; omega
    · have := h e (List.mem_filter.1 he).1; omega
  intro e he
  unfold doL at he
  split at he
  · exact huse _ e he
  · split at he
    · obtain ⟨x, hx, rfl⟩ := List.mem_map.1 he
      have := h x hx
      split
      · simp only; omega
      · omega
    · split at he
      · unfold unpinL at he
        split at he
        · have := h e he; omega
        · obtain ⟨x, hx, rfl⟩ := List.mem_map.1 he
          have := h x hx
          split
          · simp only; omega
          · omega
      · split at he
        · have := h e (List.mem_filter.1 he).1; omega
        · split at he
          · split at he
            · cases he
            · have := h e he; omega
          · unfold putL at he
            split at he
            · exact huse _ e he
            · split at he
              · have := h e he; omega
              · rcases List.mem_append.1 he with he | he
                · have := h e (mem_shrink _ he); omega
                · rw [List.mem_singleton.1 he]
                  exact Nat.zero_le _
/-- calls, one after another -/
def runL (M R : Nat) (ds : List DoV) (L : List Ent) : List Ent := ds.foldl (fun L k => doL k M R L) L
theorem runL_take (M R : Nat) (ds : List DoV) (L : List Ent) (j : Nat) (hj : j < ds.length) : runL M R (ds.take (j + 1)) L = doL ds[j] M R (runL M R (ds.take j) L) := by
  unfold runL
  rw [List.take_succ_eq_append_getElem hj, List.foldl_append]
  rfl
theorem held_run (M R : Nat) (ds : List DoV) : ∀ (j : Nat), j ≤ ds.length → ∀ e ∈ runL M R (ds.take j) [], e.held ≤ j
  | 0, _ => fun e he => by simp [runL] at he
  | j + 1, h => fun e he => by
    rw [runL_take M R ds [] j (by omega)] at he
    exact held_do _ (held_run M R ds j (by omega)) e he
def mkM (n : Int) : Nat := (n % 64).toNat + 1
def mkR (n : Int) : Nat := (n % 8192).toNat + 1
theorem mkM_ok (n : Int) : 1 ≤ mkM n ∧ mkM n ≤ 64 := by unfold mkM; omega
theorem mkR_ok (n : Int) : 1 ≤ mkR n ∧ mkR n ≤ 8192 := by unfold mkR; omega
theorem mkM_eq (n : Int) : wrap64 (1 + wrap64 ((IntKind.u64.wrap n).tmod 64)) = (mkM n : Nat) := by
  have h0 : 0 ≤ n % 18446744073709551616 := Int.emod_nonneg _ (by decide)
  rw [IntKind.wrap_u64, Int.tmod_eq_emod_of_nonneg h0]
  unfold wrap64 mkM
  omega
theorem mkR_eq (n : Int) : wrap64 (1 + wrap64 ((IntKind.u64.wrap n).tmod 8192)) = (mkR n : Nat) := by
  have h0 : 0 ≤ n % 18446744073709551616 := Int.emod_nonneg _ (by decide)
  rw [IntKind.wrap_u64, Int.tmod_eq_emod_of_nonneg h0]
  unfold wrap64 mkR
  omega
/-- what made answers -/
def MadePost (w : World) (ch rm : Int) (n : Nat) (ds : List DoV) (e : Ending) (w' : World) : Prop :=
  ∃ s b, e = .returned (.tuple #[.pointer (some ⟨s, 0, none⟩), .bool b]) ∧ Below w.heap.size w w' ∧ (b = true → n ≤ 300 ∧ (∀ d ∈ ds, d.data.length ≤ 65536) ∧ ∃ O, AtO w w' O s (mkM ch) (mkR rm) (runL (mkM ch) (mkR rm) ds []))
set_option maxRecDepth 100000 in
theorem made_any (ch rm : Int) (A : Option Addr) (n c : Nat) (ds : List DoV) (w : World) (hd : Dos w w.heap.size A n ds) (hc : n ≤ c) (hn : n ≤ 9223372036854775807) :
    Calls Try.prog 39 #[.int .i64 ch, .int .i64 rm, .slice A n c] w (MadePost w ch rm n ds) := by
  have he1 := mkM_eq ch
  have he2 := mkR_eq rm
  have HD := Lib.hid hd
  clear hd
  go_enter Try.func39, Try.ntmps39
  go_wp2_with fail
  refine (new_at (mkM ch) (mkR rm) (mkM_ok ch) (mkR_ok rm) (Below.refl w.heap.size w)).mono ?_
  rintro e w1 ⟨s, O, rfl, h1⟩
  have H1 := Lib.hid h1
  clear h1 he1 he2
  go_wp2_with fail
  refine (short_any A n c w.heap.size ds w1 (HD.out.below H1.out.2.2 (Nat.le_refl _)) hc hn).mono ?_
  rintro e w2 ⟨rfl, b, rfl, hb⟩
  cases b with
  | false =>
    go_wp2_with fail
    go_ret2
    exact ⟨_, _, rfl, H1.out.2.2, fun e => by cases e⟩
  | true =>
    obtain ⟨h300, hall⟩ := hb rfl
    have HALL := Lib.hid hall
    clear hb hall
    go_wp2_with fail
    go_loopw [11, 36] (fun _ i wr => ∃ (j : Nat) (O' : Nat → Prop), i = .int .i64 (j : Nat) ∧ j ≤ n ∧ Hid (AtO w wr O' s (mkM ch) (mkR rm) (runL (mkM ch) (mkR rm) (ds.take j) []))) (fun _ i _ => n - (intOf i).toNat)
    case atStart => exact ⟨0, O, rfl, by omega, H1⟩
    case round =>
      obtain ⟨j, O', rfl, hj, HA⟩ := hrel
      have hlen := HD.out.len
      by_cases hlt : j < n
      · obtain ⟨b, off, dk, Ai, mi, ki, rfl, hb, c0, c1, c2, c3, hki, hr, hml, hjl, hdk⟩ := HD.out.at_ hlt
        have hmi : mi ≤ 65536 := by rw [hml, ← hdk]; exact HALL.out _ (List.getElem_mem hjl)
        have hj1 : (j : Int) < (n : Int) := by omega
        have h0 : off + 4 * j = off + j * 4 := by omega
        rw [h0] at c0 c1 c2 c3
        replace c0 := (HA.out.2.2.cell (p := ⟨b, off + j * 4, none⟩) hb).trans c0
        replace c1 := (HA.out.2.2.cell (p := ⟨b, off + j * 4 + 1, none⟩) hb).trans c1
        replace c2 := (HA.out.2.2.cell (p := ⟨b, off + j * 4 + 2, none⟩) hb).trans c2
        replace c3 := (HA.out.2.2.cell (p := ⟨b, off + j * 4 + 3, none⟩) hb).trans c3
        have HR := Lib.hid hr
        have HDK := Lib.hid (And.intro hdk (runL_take (mkM ch) (mkR rm) ds [] j hjl))
        clear hr hdk h0 hml
        have hhe := held_run (mkM ch) (mkR rm) ds j (by omega)
        have hdo := does_any dk Ai mi ki _ (HA.out.alloc (.cells #[.int .i64 dk.op, .int .i64 dk.id, .slice Ai mi ki, .int .i64 dk.n] 34)) (fun e he => by have := hhe e he; omega) HR.out (by omega)
        have HDO := Lib.hid hdo
        clear hhe hdo
        go_wp2_with fail
        refine HDO.out.mono ?_
        rintro e w5 ⟨rfl, O5, h5, _, _⟩
        rw [← HDK.out.1, ← HDK.out.2] at h5
        have H5 := Lib.hid h5
        clear h5 HDO HA
        go_wp2_with fail
        go_roundw
        case rel => exact ⟨j + 1, O5, by go_num, by omega, H5⟩
        case measure => simp only [intOf]; omega
      · have hjn : ds.take j = ds := List.take_of_length_le (by omega)
        have HJ := Lib.hid hjn
        clear hjn
        go_wp2_with fail
        go_ret2
        refine ⟨_, _, rfl, HA.out.2.2, fun _ => ⟨h300, HALL.out, O', ?_⟩⟩
        have := HA.out
        rw [HJ.out] at this
        exact this
end Go.Proofs.Ytnmifaohmafobaa.st
