/-
  NARROWER THAN 'FOR EVERY INPUT', by the rows' own cells (each row's printed sentence says how): SumsInets: laid · SumsUpdates: laid · SumsHolds: laid · SumsMoves: laid · SumsFollows: laid · SumsCrcs: laid · SumsSeals: laid · SumsBack: laid · SumsBurst: laid · SumsThree: laid · SumsTurned: laid.
  DERIVED. THE GIVEN ROWS OF THIS SEAT. 11 by the template 'for every input the law returns true; each argument reads behind the call as it read before'; 0 by the template 'total and deterministic' (their statements: YtkgfbehlcjjjnaaDoorTotals.lean).
  GIVEN WITH THE SEED: the statements are not yours to turn. If you find one false, say at which input.
  Laid BY PROGRAM, IN A SANDBOX (cutbox-rows.mjs): the forced cells as the released guide's own fill.sh prints them over the translation 028c2bcb45cd6e31… (all of the seat's roots in one cut). By AI agents, Wed Nov 11 2026. No macro, syntax, notation, axiom, sorry.
-/
import Derived.Test.YtkgfbehlcjjjnaaDoorChecked
import GoSem.Claim
import GoSem.ClaimJoined
import GoSem.ClaimMapViews
import Derived.JoinedTies
import Derived.KernelRfl
namespace Go.Proofs.YtkgfbehlcjjjnaaDoor
/- THE CELL 'sum', in the pinned program and in every row, IS THE sha256 OF THE DUMP (.gsa) THAT YtkgfbehlcjjjnaaDoorProg.lean LOADS. Nothing in Lean hashes anything: it is a label: what it is worth is what the hold of that sum in a sandbox is worth. -/
noncomputable def Tryd.pinned : Pinned := { name := "ytkgfbehlcjjjnaadoor", sum := "028c2bcb45cd6e3117d84376d49caf33ecdcba86788ac0499d38611d77c88182", checked := Tryd.checked }
namespace Rows
def none {H : Type} : Left H := { results := [], args := [] }

/- WHAT THE LISTED PACKAGE-LEVEL VARIABLES READ AS WHEN THE CALL BEGINS. Each datum BY PROGRAM (the guide's laid-datum.mjs) off the statement by which the dump's own 'gosem.cut.vars' lays the variable. In a bare row this is a premise. The card (YtkgfbehlcjjjnaaDoorCards.lean) ties it to the program's text. -/
def laid_flume_sums_fours {H : Type} : DataW H := .agg [.lit (.int .u32 0), .lit (.int .u32 498536548), .lit (.int .u32 997073096), .lit (.int .u32 651767980), .lit (.int .u32 1994146192), .lit (.int .u32 1802195444), .lit (.int .u32 1303535960), .lit (.int .u32 1342533948), .lit (.int .u32 3988292384), .lit (.int .u32 4027552580), .lit (.int .u32 3604390888), .lit (.int .u32 3412177804), .lit (.int .u32 2607071920), .lit (.int .u32 2262029012), .lit (.int .u32 2685067896), .lit (.int .u32 3183342108)]

/-- 'flumelaw01.SumsInets': WHATEVER THE INPUT: true; the input reads as it did. -/
def sumsInetsSpec : ChangeSpec := { name := "sumsInets", fn := fun _ => fun
  | [d] => { results := [.lit (.bool true)], args := [d] }
  | _ => none }
def sumsInetsRow : OpenClaim := { program := "ytkgfbehlcjjjnaadoor", sum := "028c2bcb45cd6e3117d84376d49caf33ecdcba86788ac0499d38611d77c88182", func := "flume/flumelaw01.SumsInets", spec := "sumsInets", named := ["flume/sums.fours"], apart := false, laid := [("flume/sums.fours", laid_flume_sums_fours)] }
def SumsInetsSaid : Prop := sumsInetsRow.holds Tryd.pinned (OpenSpec.ofChange sumsInetsSpec)

/-- ITS FALSE NEIGHBOUR: 'it returns false'. Refute it at one input. -/
def sumsInetsWrong : ChangeSpec := { name := "sumsInets", fn := fun _ => fun
  | [d] => { results := [.lit (.bool false)], args := [d] }
  | _ => none }
def SumsInetsWrongFalsely : Prop := sumsInetsRow.holds Tryd.pinned (OpenSpec.ofChange sumsInetsWrong)

/-- 'flumelaw01.SumsUpdates': WHATEVER THE INPUT: true; the input reads as it did. -/
def sumsUpdatesSpec : ChangeSpec := { name := "sumsUpdates", fn := fun _ => fun
  | [d1, d2, d3] => { results := [.lit (.bool true)], args := [d1, d2, d3] }
  | _ => none }
def sumsUpdatesRow : OpenClaim := { program := "ytkgfbehlcjjjnaadoor", sum := "028c2bcb45cd6e3117d84376d49caf33ecdcba86788ac0499d38611d77c88182", func := "flume/flumelaw01.SumsUpdates", spec := "sumsUpdates", named := ["flume/sums.fours"], apart := false, laid := [("flume/sums.fours", laid_flume_sums_fours)] }
def SumsUpdatesSaid : Prop := sumsUpdatesRow.holds Tryd.pinned (OpenSpec.ofChange sumsUpdatesSpec)

/-- ITS FALSE NEIGHBOUR: 'it returns false'. Refute it at one input. -/
def sumsUpdatesWrong : ChangeSpec := { name := "sumsUpdates", fn := fun _ => fun
  | [d1, d2, d3] => { results := [.lit (.bool false)], args := [d1, d2, d3] }
  | _ => none }
def SumsUpdatesWrongFalsely : Prop := sumsUpdatesRow.holds Tryd.pinned (OpenSpec.ofChange sumsUpdatesWrong)

/-- 'flumelaw01.SumsHolds': WHATEVER THE INPUT: true; the input reads as it did. -/
def sumsHoldsSpec : ChangeSpec := { name := "sumsHolds", fn := fun _ => fun
  | [d1, d2] => { results := [.lit (.bool true)], args := [d1, d2] }
  | _ => none }
def sumsHoldsRow : OpenClaim := { program := "ytkgfbehlcjjjnaadoor", sum := "028c2bcb45cd6e3117d84376d49caf33ecdcba86788ac0499d38611d77c88182", func := "flume/flumelaw01.SumsHolds", spec := "sumsHolds", named := ["flume/sums.fours"], apart := false, laid := [("flume/sums.fours", laid_flume_sums_fours)] }
def SumsHoldsSaid : Prop := sumsHoldsRow.holds Tryd.pinned (OpenSpec.ofChange sumsHoldsSpec)

/-- ITS FALSE NEIGHBOUR: 'it returns false'. Refute it at one input. -/
def sumsHoldsWrong : ChangeSpec := { name := "sumsHolds", fn := fun _ => fun
  | [d1, d2] => { results := [.lit (.bool false)], args := [d1, d2] }
  | _ => none }
def SumsHoldsWrongFalsely : Prop := sumsHoldsRow.holds Tryd.pinned (OpenSpec.ofChange sumsHoldsWrong)

/-- 'flumelaw01.SumsMoves': WHATEVER THE INPUT: true; the input reads as it did. -/
def sumsMovesSpec : ChangeSpec := { name := "sumsMoves", fn := fun _ => fun
  | [d1, d2] => { results := [.lit (.bool true)], args := [d1, d2] }
  | _ => none }
def sumsMovesRow : OpenClaim := { program := "ytkgfbehlcjjjnaadoor", sum := "028c2bcb45cd6e3117d84376d49caf33ecdcba86788ac0499d38611d77c88182", func := "flume/flumelaw01.SumsMoves", spec := "sumsMoves", named := ["flume/sums.fours"], apart := false, laid := [("flume/sums.fours", laid_flume_sums_fours)] }
def SumsMovesSaid : Prop := sumsMovesRow.holds Tryd.pinned (OpenSpec.ofChange sumsMovesSpec)

/-- ITS FALSE NEIGHBOUR: 'it returns false'. Refute it at one input. -/
def sumsMovesWrong : ChangeSpec := { name := "sumsMoves", fn := fun _ => fun
  | [d1, d2] => { results := [.lit (.bool false)], args := [d1, d2] }
  | _ => none }
def SumsMovesWrongFalsely : Prop := sumsMovesRow.holds Tryd.pinned (OpenSpec.ofChange sumsMovesWrong)

/-- 'flumelaw01.SumsFollows': WHATEVER THE INPUT: true; the input reads as it did. -/
def sumsFollowsSpec : ChangeSpec := { name := "sumsFollows", fn := fun _ => fun
  | [d1, d2, d3] => { results := [.lit (.bool true)], args := [d1, d2, d3] }
  | _ => none }
def sumsFollowsRow : OpenClaim := { program := "ytkgfbehlcjjjnaadoor", sum := "028c2bcb45cd6e3117d84376d49caf33ecdcba86788ac0499d38611d77c88182", func := "flume/flumelaw01.SumsFollows", spec := "sumsFollows", named := ["flume/sums.fours"], apart := false, laid := [("flume/sums.fours", laid_flume_sums_fours)] }
def SumsFollowsSaid : Prop := sumsFollowsRow.holds Tryd.pinned (OpenSpec.ofChange sumsFollowsSpec)

/-- ITS FALSE NEIGHBOUR: 'it returns false'. Refute it at one input. -/
def sumsFollowsWrong : ChangeSpec := { name := "sumsFollows", fn := fun _ => fun
  | [d1, d2, d3] => { results := [.lit (.bool false)], args := [d1, d2, d3] }
  | _ => none }
def SumsFollowsWrongFalsely : Prop := sumsFollowsRow.holds Tryd.pinned (OpenSpec.ofChange sumsFollowsWrong)

/-- 'flumelaw01.SumsCrcs': WHATEVER THE INPUT: true; the input reads as it did. -/
def sumsCrcsSpec : ChangeSpec := { name := "sumsCrcs", fn := fun _ => fun
  | [d] => { results := [.lit (.bool true)], args := [d] }
  | _ => none }
def sumsCrcsRow : OpenClaim := { program := "ytkgfbehlcjjjnaadoor", sum := "028c2bcb45cd6e3117d84376d49caf33ecdcba86788ac0499d38611d77c88182", func := "flume/flumelaw01.SumsCrcs", spec := "sumsCrcs", named := ["flume/sums.fours"], apart := false, laid := [("flume/sums.fours", laid_flume_sums_fours)] }
def SumsCrcsSaid : Prop := sumsCrcsRow.holds Tryd.pinned (OpenSpec.ofChange sumsCrcsSpec)

/-- ITS FALSE NEIGHBOUR: 'it returns false'. Refute it at one input. -/
def sumsCrcsWrong : ChangeSpec := { name := "sumsCrcs", fn := fun _ => fun
  | [d] => { results := [.lit (.bool false)], args := [d] }
  | _ => none }
def SumsCrcsWrongFalsely : Prop := sumsCrcsRow.holds Tryd.pinned (OpenSpec.ofChange sumsCrcsWrong)

/-- 'flumelaw01.SumsSeals': WHATEVER THE INPUT: true; the input reads as it did. -/
def sumsSealsSpec : ChangeSpec := { name := "sumsSeals", fn := fun _ => fun
  | [d1, d2] => { results := [.lit (.bool true)], args := [d1, d2] }
  | _ => none }
def sumsSealsRow : OpenClaim := { program := "ytkgfbehlcjjjnaadoor", sum := "028c2bcb45cd6e3117d84376d49caf33ecdcba86788ac0499d38611d77c88182", func := "flume/flumelaw01.SumsSeals", spec := "sumsSeals", named := ["flume/sums.fours"], apart := false, laid := [("flume/sums.fours", laid_flume_sums_fours)] }
def SumsSealsSaid : Prop := sumsSealsRow.holds Tryd.pinned (OpenSpec.ofChange sumsSealsSpec)

/-- ITS FALSE NEIGHBOUR: 'it returns false'. Refute it at one input. -/
def sumsSealsWrong : ChangeSpec := { name := "sumsSeals", fn := fun _ => fun
  | [d1, d2] => { results := [.lit (.bool false)], args := [d1, d2] }
  | _ => none }
def SumsSealsWrongFalsely : Prop := sumsSealsRow.holds Tryd.pinned (OpenSpec.ofChange sumsSealsWrong)

/-- 'flumelaw01.SumsBack': WHATEVER THE INPUT: true; the input reads as it did. -/
def sumsBackSpec : ChangeSpec := { name := "sumsBack", fn := fun _ => fun
  | [d1, d2] => { results := [.lit (.bool true)], args := [d1, d2] }
  | _ => none }
def sumsBackRow : OpenClaim := { program := "ytkgfbehlcjjjnaadoor", sum := "028c2bcb45cd6e3117d84376d49caf33ecdcba86788ac0499d38611d77c88182", func := "flume/flumelaw01.SumsBack", spec := "sumsBack", named := ["flume/sums.fours"], apart := false, laid := [("flume/sums.fours", laid_flume_sums_fours)] }
def SumsBackSaid : Prop := sumsBackRow.holds Tryd.pinned (OpenSpec.ofChange sumsBackSpec)

/-- ITS FALSE NEIGHBOUR: 'it returns false'. Refute it at one input. -/
def sumsBackWrong : ChangeSpec := { name := "sumsBack", fn := fun _ => fun
  | [d1, d2] => { results := [.lit (.bool false)], args := [d1, d2] }
  | _ => none }
def SumsBackWrongFalsely : Prop := sumsBackRow.holds Tryd.pinned (OpenSpec.ofChange sumsBackWrong)

/-- 'flumelaw01.SumsBurst': WHATEVER THE INPUT: true; the input reads as it did. -/
def sumsBurstSpec : ChangeSpec := { name := "sumsBurst", fn := fun _ => fun
  | [d1, d2, d3] => { results := [.lit (.bool true)], args := [d1, d2, d3] }
  | _ => none }
def sumsBurstRow : OpenClaim := { program := "ytkgfbehlcjjjnaadoor", sum := "028c2bcb45cd6e3117d84376d49caf33ecdcba86788ac0499d38611d77c88182", func := "flume/flumelaw01.SumsBurst", spec := "sumsBurst", named := ["flume/sums.fours"], apart := false, laid := [("flume/sums.fours", laid_flume_sums_fours)] }
def SumsBurstSaid : Prop := sumsBurstRow.holds Tryd.pinned (OpenSpec.ofChange sumsBurstSpec)

/-- ITS FALSE NEIGHBOUR: 'it returns false'. Refute it at one input. -/
def sumsBurstWrong : ChangeSpec := { name := "sumsBurst", fn := fun _ => fun
  | [d1, d2, d3] => { results := [.lit (.bool false)], args := [d1, d2, d3] }
  | _ => none }
def SumsBurstWrongFalsely : Prop := sumsBurstRow.holds Tryd.pinned (OpenSpec.ofChange sumsBurstWrong)

/-- 'flumelaw01.SumsThree': WHATEVER THE INPUT: true; the input reads as it did. -/
def sumsThreeSpec : ChangeSpec := { name := "sumsThree", fn := fun _ => fun
  | [d1, d2, d3] => { results := [.lit (.bool true)], args := [d1, d2, d3] }
  | _ => none }
def sumsThreeRow : OpenClaim := { program := "ytkgfbehlcjjjnaadoor", sum := "028c2bcb45cd6e3117d84376d49caf33ecdcba86788ac0499d38611d77c88182", func := "flume/flumelaw01.SumsThree", spec := "sumsThree", named := ["flume/sums.fours"], apart := false, laid := [("flume/sums.fours", laid_flume_sums_fours)] }
def SumsThreeSaid : Prop := sumsThreeRow.holds Tryd.pinned (OpenSpec.ofChange sumsThreeSpec)

/-- ITS FALSE NEIGHBOUR: 'it returns false'. Refute it at one input. -/
def sumsThreeWrong : ChangeSpec := { name := "sumsThree", fn := fun _ => fun
  | [d1, d2, d3] => { results := [.lit (.bool false)], args := [d1, d2, d3] }
  | _ => none }
def SumsThreeWrongFalsely : Prop := sumsThreeRow.holds Tryd.pinned (OpenSpec.ofChange sumsThreeWrong)

/-- 'flumelaw01.SumsTurned': WHATEVER THE INPUT: true; the input reads as it did. -/
def sumsTurnedSpec : ChangeSpec := { name := "sumsTurned", fn := fun _ => fun
  | [d1, d2, d3] => { results := [.lit (.bool true)], args := [d1, d2, d3] }
  | _ => none }
def sumsTurnedRow : OpenClaim := { program := "ytkgfbehlcjjjnaadoor", sum := "028c2bcb45cd6e3117d84376d49caf33ecdcba86788ac0499d38611d77c88182", func := "flume/flumelaw01.SumsTurned", spec := "sumsTurned", named := ["flume/sums.fours"], apart := false, laid := [("flume/sums.fours", laid_flume_sums_fours)] }
def SumsTurnedSaid : Prop := sumsTurnedRow.holds Tryd.pinned (OpenSpec.ofChange sumsTurnedSpec)

/-- ITS FALSE NEIGHBOUR: 'it returns false'. Refute it at one input. -/
def sumsTurnedWrong : ChangeSpec := { name := "sumsTurned", fn := fun _ => fun
  | [d1, d2, d3] => { results := [.lit (.bool false)], args := [d1, d2, d3] }
  | _ => none }
def SumsTurnedWrongFalsely : Prop := sumsTurnedRow.holds Tryd.pinned (OpenSpec.ofChange sumsTurnedWrong)

/- THE SECOND FORM. 'bulk': how many values and letters a reading holds, each counted each time it is reached (what is shared counts as often as it is met; a slice's spare places count too). A statement '..UptoSaid' is the law's where the arguments, and the package variables that the reading takes, are together of bulk at most 1048576: NARROWER than '..Said'. Prove '..Said' where nothing that the law and all that it calls make is longer than what came in: it says more and counts as full. Else prove '..UptoSaid'. A law counts once. -/
mutual
def uptoBulk {H : Type} : DataW H → Nat
  | .lit (.string bytes) => bytes.length + 1
  | .lit _ => 1
  | .nil => 1
  | .ptr d => uptoBulk d + 1
  | .slice elems spare => uptoBulkAll elems + uptoBulkAll spare + 1
  | .agg parts => uptoBulkAll parts + 1
  | .iface _ d => uptoBulk d + 1
  | .map entries => uptoBulkEntries entries + 1
  | .held _ => 1
def uptoBulkAll {H : Type} : List (DataW H) → Nat
  | [] => 0
  | d :: r => uptoBulk d + uptoBulkAll r
def uptoBulkEntries {H : Type} : List (Lit × DataW H) → Nat
  | [] => 0
  | x :: r => uptoBulkEntry x + uptoBulkEntries r
def uptoBulkEntry {H : Type} : Lit × DataW H → Nat
  | (.string bytes, d) => bytes.length + uptoBulk d + 1
  | (_, d) => uptoBulk d + 1
 end
def uptoSmall : (H : Type) → List (DataW H) → Bool := fun _ ds => decide (uptoBulkAll ds ≤ 1048576)
def OpenSpec.upto (s : _root_.Go.ChangeSpec) : _root_.Go.OpenSpec := { _root_.Go.OpenSpec.ofChange s with cond := some uptoSmall }

/-- 'flumelaw01.SumsInets', WHERE WHAT IT READS IS OF BULK AT MOST 1048576: true; the input reads as it did. -/
def sumsInetsUptoRow : OpenClaim := { program := "ytkgfbehlcjjjnaadoor", sum := "028c2bcb45cd6e3117d84376d49caf33ecdcba86788ac0499d38611d77c88182", func := "flume/flumelaw01.SumsInets", spec := "sumsInets", named := ["flume/sums.fours"], apart := false, laid := [("flume/sums.fours", laid_flume_sums_fours)], narrowed := true }
def SumsInetsUptoSaid : Prop := sumsInetsUptoRow.holds Tryd.pinned (OpenSpec.upto sumsInetsSpec)

/-- 'flumelaw01.SumsUpdates', WHERE WHAT IT READS IS OF BULK AT MOST 1048576: true; the input reads as it did. -/
def sumsUpdatesUptoRow : OpenClaim := { program := "ytkgfbehlcjjjnaadoor", sum := "028c2bcb45cd6e3117d84376d49caf33ecdcba86788ac0499d38611d77c88182", func := "flume/flumelaw01.SumsUpdates", spec := "sumsUpdates", named := ["flume/sums.fours"], apart := false, laid := [("flume/sums.fours", laid_flume_sums_fours)], narrowed := true }
def SumsUpdatesUptoSaid : Prop := sumsUpdatesUptoRow.holds Tryd.pinned (OpenSpec.upto sumsUpdatesSpec)

/-- 'flumelaw01.SumsHolds', WHERE WHAT IT READS IS OF BULK AT MOST 1048576: true; the input reads as it did. -/
def sumsHoldsUptoRow : OpenClaim := { program := "ytkgfbehlcjjjnaadoor", sum := "028c2bcb45cd6e3117d84376d49caf33ecdcba86788ac0499d38611d77c88182", func := "flume/flumelaw01.SumsHolds", spec := "sumsHolds", named := ["flume/sums.fours"], apart := false, laid := [("flume/sums.fours", laid_flume_sums_fours)], narrowed := true }
def SumsHoldsUptoSaid : Prop := sumsHoldsUptoRow.holds Tryd.pinned (OpenSpec.upto sumsHoldsSpec)

/-- 'flumelaw01.SumsMoves', WHERE WHAT IT READS IS OF BULK AT MOST 1048576: true; the input reads as it did. -/
def sumsMovesUptoRow : OpenClaim := { program := "ytkgfbehlcjjjnaadoor", sum := "028c2bcb45cd6e3117d84376d49caf33ecdcba86788ac0499d38611d77c88182", func := "flume/flumelaw01.SumsMoves", spec := "sumsMoves", named := ["flume/sums.fours"], apart := false, laid := [("flume/sums.fours", laid_flume_sums_fours)], narrowed := true }
def SumsMovesUptoSaid : Prop := sumsMovesUptoRow.holds Tryd.pinned (OpenSpec.upto sumsMovesSpec)

/-- 'flumelaw01.SumsFollows', WHERE WHAT IT READS IS OF BULK AT MOST 1048576: true; the input reads as it did. -/
def sumsFollowsUptoRow : OpenClaim := { program := "ytkgfbehlcjjjnaadoor", sum := "028c2bcb45cd6e3117d84376d49caf33ecdcba86788ac0499d38611d77c88182", func := "flume/flumelaw01.SumsFollows", spec := "sumsFollows", named := ["flume/sums.fours"], apart := false, laid := [("flume/sums.fours", laid_flume_sums_fours)], narrowed := true }
def SumsFollowsUptoSaid : Prop := sumsFollowsUptoRow.holds Tryd.pinned (OpenSpec.upto sumsFollowsSpec)

/-- 'flumelaw01.SumsCrcs', WHERE WHAT IT READS IS OF BULK AT MOST 1048576: true; the input reads as it did. -/
def sumsCrcsUptoRow : OpenClaim := { program := "ytkgfbehlcjjjnaadoor", sum := "028c2bcb45cd6e3117d84376d49caf33ecdcba86788ac0499d38611d77c88182", func := "flume/flumelaw01.SumsCrcs", spec := "sumsCrcs", named := ["flume/sums.fours"], apart := false, laid := [("flume/sums.fours", laid_flume_sums_fours)], narrowed := true }
def SumsCrcsUptoSaid : Prop := sumsCrcsUptoRow.holds Tryd.pinned (OpenSpec.upto sumsCrcsSpec)

/-- 'flumelaw01.SumsSeals', WHERE WHAT IT READS IS OF BULK AT MOST 1048576: true; the input reads as it did. -/
def sumsSealsUptoRow : OpenClaim := { program := "ytkgfbehlcjjjnaadoor", sum := "028c2bcb45cd6e3117d84376d49caf33ecdcba86788ac0499d38611d77c88182", func := "flume/flumelaw01.SumsSeals", spec := "sumsSeals", named := ["flume/sums.fours"], apart := false, laid := [("flume/sums.fours", laid_flume_sums_fours)], narrowed := true }
def SumsSealsUptoSaid : Prop := sumsSealsUptoRow.holds Tryd.pinned (OpenSpec.upto sumsSealsSpec)

/-- 'flumelaw01.SumsBack', WHERE WHAT IT READS IS OF BULK AT MOST 1048576: true; the input reads as it did. -/
def sumsBackUptoRow : OpenClaim := { program := "ytkgfbehlcjjjnaadoor", sum := "028c2bcb45cd6e3117d84376d49caf33ecdcba86788ac0499d38611d77c88182", func := "flume/flumelaw01.SumsBack", spec := "sumsBack", named := ["flume/sums.fours"], apart := false, laid := [("flume/sums.fours", laid_flume_sums_fours)], narrowed := true }
def SumsBackUptoSaid : Prop := sumsBackUptoRow.holds Tryd.pinned (OpenSpec.upto sumsBackSpec)

/-- 'flumelaw01.SumsBurst', WHERE WHAT IT READS IS OF BULK AT MOST 1048576: true; the input reads as it did. -/
def sumsBurstUptoRow : OpenClaim := { program := "ytkgfbehlcjjjnaadoor", sum := "028c2bcb45cd6e3117d84376d49caf33ecdcba86788ac0499d38611d77c88182", func := "flume/flumelaw01.SumsBurst", spec := "sumsBurst", named := ["flume/sums.fours"], apart := false, laid := [("flume/sums.fours", laid_flume_sums_fours)], narrowed := true }
def SumsBurstUptoSaid : Prop := sumsBurstUptoRow.holds Tryd.pinned (OpenSpec.upto sumsBurstSpec)

/-- 'flumelaw01.SumsThree', WHERE WHAT IT READS IS OF BULK AT MOST 1048576: true; the input reads as it did. -/
def sumsThreeUptoRow : OpenClaim := { program := "ytkgfbehlcjjjnaadoor", sum := "028c2bcb45cd6e3117d84376d49caf33ecdcba86788ac0499d38611d77c88182", func := "flume/flumelaw01.SumsThree", spec := "sumsThree", named := ["flume/sums.fours"], apart := false, laid := [("flume/sums.fours", laid_flume_sums_fours)], narrowed := true }
def SumsThreeUptoSaid : Prop := sumsThreeUptoRow.holds Tryd.pinned (OpenSpec.upto sumsThreeSpec)

/-- 'flumelaw01.SumsTurned', WHERE WHAT IT READS IS OF BULK AT MOST 1048576: true; the input reads as it did. -/
def sumsTurnedUptoRow : OpenClaim := { program := "ytkgfbehlcjjjnaadoor", sum := "028c2bcb45cd6e3117d84376d49caf33ecdcba86788ac0499d38611d77c88182", func := "flume/flumelaw01.SumsTurned", spec := "sumsTurned", named := ["flume/sums.fours"], apart := false, laid := [("flume/sums.fours", laid_flume_sums_fours)], narrowed := true }
def SumsTurnedUptoSaid : Prop := sumsTurnedUptoRow.holds Tryd.pinned (OpenSpec.upto sumsTurnedSpec)

end Rows
end Go.Proofs.YtkgfbehlcjjjnaaDoor
