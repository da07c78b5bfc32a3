/- A table is reckoned once: Do, reckon. -/
import Derived.Test.YtjmgokjflfhohaaCRbF
namespace Go.Proofs.Ytjmgokjflfhohaa.rb
open Go.RowKit Mem
set_option linter.unusedVariables false
variable {w w' : World} {b p : Nat} {d s : Int} {A F : Nat → Nat}
/-- the rests that are reckoned -/
def AV (p : Nat) : Nat → Nat := fun i => ml i (aboveV p) p
def FV (p : Nat) : Nat → Nat := fun i => ml i (firstV p 15) p
set_option maxRecDepth 100000 in
set_option maxHeartbeats 1600000 in
theorem slow_any (b p bp br : Nat) (w : World) (hp : p < 18446744073709551616) (h1 : w.cell? ⟨bp, 0, none⟩ = some (.int .u64 (p : Nat))) (h2 : w.cell? ⟨br, 0, none⟩ = some (.pointer (some ⟨b, 1, none⟩)))
    (n1 : bp ≠ b) (n2 : br ≠ b) (ht : TabB w b p 0 0 A F) :
    Calls Try.prog 49 #[.pointer (some ⟨b, 1, none⟩), .func (.func 45) #[] #[.pointer (some ⟨bp, 0, none⟩), .pointer (some ⟨br, 0, none⟩)]] w fun e w' => e = .returned (.tuple #[]) ∧ TabB w' b p 1 0 (AV p) (FV p) ∧ Grown b w w' := by
  have hT1 := ht.setS 1
  have hG1 := (Grown.refl b w).set 2 (.int .i32 1)
  have e1 := ht.c2
  have e2 := ht.fz 2
  go_enter_defers Try.func49, Try.ntmps49
  go_wp2_with (go_at_call 51; refine (lock_free ⟨b, 2, none⟩ _ e1 e2).mono ?_; rintro e w' ⟨rfl, rfl⟩)
  generalize hw1 : w.setCell ⟨b, 2, none⟩ (.int .i32 1) = w1 at *
  have f1 : w1.cell? ⟨bp, 0, none⟩ = some (.int .u64 (p : Nat)) := by rw [hG1.cell n1 (cell_lt h1)]; exact h1
  have f2 : w1.cell? ⟨br, 0, none⟩ = some (.pointer (some ⟨b, 1, none⟩)) := by rw [hG1.cell n2 (cell_lt h2)]; exact h2
  have f3 := hT1.c1
  go_wp2_with (first | (go_at_call 48; refine (load_any _ 0 _ f3).mono ?_; rintro e w' ⟨rfl, rfl⟩) | (go_at_call 45; refine (reckon_in A F b p bp br _ hp f1 f2 n1 n2 hT1).mono ?_; rintro e w2 ⟨rfl, hT2, hG2⟩))
  have k1 := hT2.c1
  have k2 := hT2.fz 1
  have hT3 : TabB (w2.drew.setCell ⟨b, 1, none⟩ (.int .u32 1)) b p 1 1 _ _ := hT2.drew.setD 1
  have hG3 : Grown b w (w2.drew.setCell ⟨b, 1, none⟩ (.int .u32 1)) := (hG1.trans hG2).drew.set 1 _
  refine leaves_cons (f := 53) (args := #[.pointer (some ⟨b, 1, none⟩), .bool true]) (by simp) (by simp [go_sem]) ?_
  refine (store_deferred ⟨b, 1, none⟩ (.int .u32 0) .returning _ k1 k2).mono ?_
  rintro e u' w'' ⟨rfl, rfl, rfl⟩
  refine leaves_cons (f := 52) (args := #[.pointer (some ⟨b, 2, none⟩)]) (by simp [settle]) (by simp [go_sem]) ?_
  refine (unlock_deferred ⟨b, 2, none⟩ _ _ hT3.c2 (hT3.fz 2)).mono ?_
  rintro e u' w'' ⟨rfl, rfl, rfl⟩
  simp [Leaves, settle, results, Try.results49]
  exact ⟨hT3.setS 0, hG3.set 2 _⟩
theorem do_first (b p bp br : Nat) (w : World) (hp : p < 18446744073709551616) (h1 : w.cell? ⟨bp, 0, none⟩ = some (.int .u64 (p : Nat))) (h2 : w.cell? ⟨br, 0, none⟩ = some (.pointer (some ⟨b, 1, none⟩)))
    (n1 : bp ≠ b) (n2 : br ≠ b) (ht : TabB w b p 0 0 A F) :
    Calls Try.prog 44 #[.pointer (some ⟨b, 1, none⟩), .func (.func 45) #[] #[.pointer (some ⟨bp, 0, none⟩), .pointer (some ⟨br, 0, none⟩)]] w fun e w' => e = .returned (.tuple #[]) ∧ TabB w' b p 1 0 (AV p) (FV p) ∧ Grown b w w' := by
  have e1 := ht.c1
  go_enter Try.func44, Try.ntmps44
  go_wp2_with (first | (go_at_call 48; refine (load_any _ 0 _ e1).mono ?_; rintro e w' ⟨rfl, rfl⟩) | (go_at_call 49; refine (slow_any b p bp br _ hp h1 h2 n1 n2 ht).mono ?_; rintro e w2 ⟨rfl, hT2, hG2⟩))
  go_end0
  exact ⟨rfl, hT2, hG2⟩
theorem do_done (a : Addr) (fv : Value) (w : World) (h0 : w.cell? a = some (.int .u32 1)) :
    Calls Try.prog 44 #[.pointer (some a), fv] w fun e w' => e = .returned (.tuple #[]) ∧ w' = w := by
  go_enter Try.func44, Try.ntmps44
  go_wp2_with (first | (go_at_call 48; refine (load_any _ 1 _ h0).mono ?_; rintro e w' ⟨rfl, rfl⟩))
  go_end0
  exact ⟨rfl, rfl⟩
/-- a table that may be used: fresh, or reckoned -/
def TabOk (w : World) (b p : Nat) : Prop := TabB w b p 0 0 (fun _ => 0) (fun _ => 0) ∨ TabB w b p 1 0 (AV p) (FV p)
theorem reckon_any (b p : Nat) (w : World) (hp : p < 18446744073709551616) (ht : TabOk w b p) :
    Calls Try.prog 38 #[.pointer (some ⟨b, 1, none⟩), .int .u64 (p : Nat)] w fun e w' => e = .returned (.tuple #[]) ∧ TabB w' b p 1 0 (AV p) (FV p) ∧ Grown b w w' := by
  have hmf : ∀ (fn : Fn) (first cap : Array Value) (w : World), (Instr.makeFunc fn first cap).run Try.prog w = .ok (.func fn first cap) w := fun _ _ _ _ => rfl
  rcases ht with ht | ht
  all_goals
    have hb := ht.lt
    have hT := (ht.alloc (.cells #[.pointer (some ⟨b, 1, none⟩)] 97)).alloc (.cells #[.int .u64 (p : Nat)] 22)
    have hG : Grown b w ((w.alloc (.cells #[.pointer (some ⟨b, 1, none⟩)] 97)).alloc (.cells #[.int .u64 (p : Nat)] 22)) := ((Grown.refl b w).alloc _).alloc _
    have e1 : ((w.alloc (.cells #[.pointer (some ⟨b, 1, none⟩)] 97)).alloc (.cells #[.int .u64 (p : Nat)] 22)).cell? ⟨w.heap.size + 1, 0, none⟩ = some (.int .u64 (p : Nat)) := by go_simp
    have e2 : ((w.alloc (.cells #[.pointer (some ⟨b, 1, none⟩)] 97)).alloc (.cells #[.int .u64 (p : Nat)] 22)).cell? ⟨w.heap.size, 0, none⟩ = some (.pointer (some ⟨b, 1, none⟩)) := by go_simp
    go_enter Try.func38, Try.ntmps38
    go_wp2_with fail
    generalize (w.alloc (.cells #[.pointer (some ⟨b, 1, none⟩)] 97)).alloc (.cells #[.int .u64 (p : Nat)] 22) = w1 at *
  · refine (do_first b p (w.heap.size + 1) w.heap.size w1 hp e1 e2 (by omega) (by omega) hT).mono ?_
    rintro e w2 ⟨rfl, hT2, hG2⟩
    go_wp2_with fail
    go_end0
    exact ⟨rfl, hT2, hG.trans hG2⟩
  · refine (do_done ⟨b, 1, none⟩ _ w1 hT.c1).mono ?_
    rintro e w2 ⟨rfl, rfl⟩
    go_wp2_with fail
    go_end0
    exact ⟨rfl, hT, hG⟩
#print axioms reckon_any
end Go.Proofs.Ytjmgokjflfhohaa.rb
