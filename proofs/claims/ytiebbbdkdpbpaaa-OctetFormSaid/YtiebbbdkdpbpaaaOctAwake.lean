/- The examples of layer 2's laws come out true. -/
import Derived.Test.YtiebbbdkdpbpaaaOctB
namespace Go.Proofs.Ytiebbbdkdpbpaaa.oct
open Go.RowKit Mem OM
theorem awake_any (w : World) :
    Calls Try.prog 13 #[] w fun e w' => e = .returned (.bool true) ∧ Below w.heap.size w w' := by
  go_enter Try.func13, Try.ntmps13
  go_wp2_with fail
  refine (number_any none 0 0 0 16384 [] w (Rd.nil _ _ _) (by omega) (by omega) (by omega) (by omega)).mono ?_
  rintro e w1 ⟨A1, N1, c1, rfl, ho1, hb1⟩
  rw [show [] ++ numB (Int.toNat 16384) = [192, 64, 0] from by decide] at ho1
  have r1 := run_string Try.underlying22 Try.underlying5 Try.underlying9 ho1.rd c1
  have q1 : ((bs [192, 64, 0]).toList == [192, 64, 0]) = true := by rw [bs_toList]; decide
  go_wp2_with fail
  have hr2 : Rd (w1.alloc (.cells #[.int .i64 128, .int .i64 0] 3)) (w1.alloc (.cells #[.int .i64 128, .int .i64 0] 3)).heap.size (some ⟨w1.heap.size, 0, none⟩) 2 (iv [128, 0]) :=
    (show Ow _ w1.heap.size 3 _ 2 2 (iv [128, 0]) from Ow.lit w1 3 (iv [128, 0]) (Nat.le_refl _) (by simp [maxLen, iv])).rd
  refine (numbers_any none _ 0 0 2 2 _ [] [128, 0] _ (Rd.nil _ _ _) hr2 (Nat.le_refl _) (by omega) (by omega) (by decide)).mono ?_
  rintro e w2 ⟨A2, N2, c2, rfl, ho2, hb2⟩
  rw [show [] ++ numsB [128, 0] = [128, 128, 0] from by decide] at ho2
  have r2 := run_string Try.underlying22 Try.underlying5 Try.underlying9 ho2.rd c2
  have q2 : ((bs [128, 128, 0]).toList == [128, 128, 0]) = true := by rw [bs_toList]; decide
  go_wp2
  go_ret
  exact ⟨rfl, hb1.trans (((Below.refl _ _).alloc (Nat.le_refl _) _).trans (hb2.mono (by simp)) |>.mono hb1.size)⟩
end Go.Proofs.Ytiebbbdkdpbpaaa.oct
