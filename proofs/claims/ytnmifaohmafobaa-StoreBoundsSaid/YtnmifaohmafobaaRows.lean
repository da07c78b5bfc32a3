/-
  No cell of these rows narrows 'for every input' (looked for: loops, veiled, ifaces, maps, wideKeys, modest, calm, conditions, laid).
  DERIVED. THE GIVEN ROWS OF THIS SEAT. 10 by the template 'for every input the law returns true; each argument reads behind the call as it read before'; 0 by the template 'total and deterministic' (their statements: YtnmifaohmafobaaTotals.lean).
  GIVEN WITH THE SEED: the statements are not yours to turn. If you find one false, say at which input.
  Laid BY PROGRAM, IN A SANDBOX (cutbox-rows.mjs): the forced cells as the released guide's own fill.sh prints them over the translation 4b22a2f0a963f567… (all of the seat's roots in one cut). By AI agents, Wed Nov 11 2026. No macro, syntax, notation, axiom, sorry.
-/
import Derived.Test.YtnmifaohmafobaaChecked
import GoSem.Claim
import GoSem.ClaimJoined
import GoSem.ClaimMapViews
import Derived.JoinedTies
import Derived.KernelRfl
namespace Go.Proofs.Ytnmifaohmafobaa
/- THE CELL 'sum', in the pinned program and in every row, IS THE sha256 OF THE DUMP (.gsa) THAT YtnmifaohmafobaaProg.lean LOADS. Nothing in Lean hashes anything: it is a label: what it is worth is what the hold of that sum in a sandbox is worth. -/
noncomputable def Try.pinned : Pinned := { name := "ytnmifaohmafobaa", sum := "4b22a2f0a963f567ea19f1cf7c4420b5e4c2f0a0fba906b5e9f4bb0fbb3641e6", checked := Try.checked }
namespace Rows
def none {H : Type} : Left H := { results := [], args := [] }

/-- 'flumelaw09.StorePlays': WHATEVER THE INPUT: true; the input reads as it did. -/
def storePlaysSpec : ChangeSpec := { name := "storePlays", fn := fun _ => fun
  | [d1, d2, d3] => { results := [.lit (.bool true)], args := [d1, d2, d3] }
  | _ => none }
def storePlaysRow : OpenClaim := { program := "ytnmifaohmafobaa", sum := "4b22a2f0a963f567ea19f1cf7c4420b5e4c2f0a0fba906b5e9f4bb0fbb3641e6", func := "flume/flumelaw09.StorePlays", spec := "storePlays", unfollowed := true, recurses := true, plainKeys := false, apart := false }
def StorePlaysSaid : Prop := storePlaysRow.holds Try.pinned (OpenSpec.ofChange storePlaysSpec)

/-- ITS FALSE NEIGHBOUR: 'it returns false'. Refute it at one input. -/
def storePlaysWrong : ChangeSpec := { name := "storePlays", fn := fun _ => fun
  | [d1, d2, d3] => { results := [.lit (.bool false)], args := [d1, d2, d3] }
  | _ => none }
def StorePlaysWrongFalsely : Prop := storePlaysRow.holds Try.pinned (OpenSpec.ofChange storePlaysWrong)

/-- 'flumelaw09.StoreBounds': WHATEVER THE INPUT: true; the input reads as it did. -/
def storeBoundsSpec : ChangeSpec := { name := "storeBounds", fn := fun _ => fun
  | [d1, d2, d3] => { results := [.lit (.bool true)], args := [d1, d2, d3] }
  | _ => none }
def storeBoundsRow : OpenClaim := { program := "ytnmifaohmafobaa", sum := "4b22a2f0a963f567ea19f1cf7c4420b5e4c2f0a0fba906b5e9f4bb0fbb3641e6", func := "flume/flumelaw09.StoreBounds", spec := "storeBounds", unfollowed := true, recurses := true, plainKeys := false, apart := false }
def StoreBoundsSaid : Prop := storeBoundsRow.holds Try.pinned (OpenSpec.ofChange storeBoundsSpec)

/-- ITS FALSE NEIGHBOUR: 'it returns false'. Refute it at one input. -/
def storeBoundsWrong : ChangeSpec := { name := "storeBounds", fn := fun _ => fun
  | [d1, d2, d3] => { results := [.lit (.bool false)], args := [d1, d2, d3] }
  | _ => none }
def StoreBoundsWrongFalsely : Prop := storeBoundsRow.holds Try.pinned (OpenSpec.ofChange storeBoundsWrong)

/-- 'flumelaw09.StoreKept': WHATEVER THE INPUT: true; the input reads as it did. -/
def storeKeptSpec : ChangeSpec := { name := "storeKept", fn := fun _ => fun
  | [d1, d2, d3, d4, d5] => { results := [.lit (.bool true)], args := [d1, d2, d3, d4, d5] }
  | _ => none }
def storeKeptRow : OpenClaim := { program := "ytnmifaohmafobaa", sum := "4b22a2f0a963f567ea19f1cf7c4420b5e4c2f0a0fba906b5e9f4bb0fbb3641e6", func := "flume/flumelaw09.StoreKept", spec := "storeKept", unfollowed := true, recurses := true, plainKeys := false, apart := false }
def StoreKeptSaid : Prop := storeKeptRow.holds Try.pinned (OpenSpec.ofChange storeKeptSpec)

/-- ITS FALSE NEIGHBOUR: 'it returns false'. Refute it at one input. -/
def storeKeptWrong : ChangeSpec := { name := "storeKept", fn := fun _ => fun
  | [d1, d2, d3, d4, d5] => { results := [.lit (.bool false)], args := [d1, d2, d3, d4, d5] }
  | _ => none }
def StoreKeptWrongFalsely : Prop := storeKeptRow.holds Try.pinned (OpenSpec.ofChange storeKeptWrong)

/-- 'flumelaw09.StoreOrder': WHATEVER THE INPUT: true; the input reads as it did. -/
def storeOrderSpec : ChangeSpec := { name := "storeOrder", fn := fun _ => fun
  | [d1, d2, d3, d4] => { results := [.lit (.bool true)], args := [d1, d2, d3, d4] }
  | _ => none }
def storeOrderRow : OpenClaim := { program := "ytnmifaohmafobaa", sum := "4b22a2f0a963f567ea19f1cf7c4420b5e4c2f0a0fba906b5e9f4bb0fbb3641e6", func := "flume/flumelaw09.StoreOrder", spec := "storeOrder", unfollowed := true, recurses := true, plainKeys := false, apart := false }
def StoreOrderSaid : Prop := storeOrderRow.holds Try.pinned (OpenSpec.ofChange storeOrderSpec)

/-- ITS FALSE NEIGHBOUR: 'it returns false'. Refute it at one input. -/
def storeOrderWrong : ChangeSpec := { name := "storeOrder", fn := fun _ => fun
  | [d1, d2, d3, d4] => { results := [.lit (.bool false)], args := [d1, d2, d3, d4] }
  | _ => none }
def StoreOrderWrongFalsely : Prop := storeOrderRow.holds Try.pinned (OpenSpec.ofChange storeOrderWrong)

/-- 'flumelaw09.StoreLeast': WHATEVER THE INPUT: true; the input reads as it did. -/
def storeLeastSpec : ChangeSpec := { name := "storeLeast", fn := fun _ => fun
  | [d1, d2, d3, d4] => { results := [.lit (.bool true)], args := [d1, d2, d3, d4] }
  | _ => none }
def storeLeastRow : OpenClaim := { program := "ytnmifaohmafobaa", sum := "4b22a2f0a963f567ea19f1cf7c4420b5e4c2f0a0fba906b5e9f4bb0fbb3641e6", func := "flume/flumelaw09.StoreLeast", spec := "storeLeast", unfollowed := true, recurses := true, plainKeys := false, apart := false }
def StoreLeastSaid : Prop := storeLeastRow.holds Try.pinned (OpenSpec.ofChange storeLeastSpec)

/-- ITS FALSE NEIGHBOUR: 'it returns false'. Refute it at one input. -/
def storeLeastWrong : ChangeSpec := { name := "storeLeast", fn := fun _ => fun
  | [d1, d2, d3, d4] => { results := [.lit (.bool false)], args := [d1, d2, d3, d4] }
  | _ => none }
def StoreLeastWrongFalsely : Prop := storeLeastRow.holds Try.pinned (OpenSpec.ofChange storeLeastWrong)

/-- 'flumelaw09.StoreHolds': WHATEVER THE INPUT: true; the input reads as it did. -/
def storeHoldsSpec : ChangeSpec := { name := "storeHolds", fn := fun _ => fun
  | [d1, d2, d3, d4, d5] => { results := [.lit (.bool true)], args := [d1, d2, d3, d4, d5] }
  | _ => none }
def storeHoldsRow : OpenClaim := { program := "ytnmifaohmafobaa", sum := "4b22a2f0a963f567ea19f1cf7c4420b5e4c2f0a0fba906b5e9f4bb0fbb3641e6", func := "flume/flumelaw09.StoreHolds", spec := "storeHolds", unfollowed := true, recurses := true, plainKeys := false, apart := false }
def StoreHoldsSaid : Prop := storeHoldsRow.holds Try.pinned (OpenSpec.ofChange storeHoldsSpec)

/-- ITS FALSE NEIGHBOUR: 'it returns false'. Refute it at one input. -/
def storeHoldsWrong : ChangeSpec := { name := "storeHolds", fn := fun _ => fun
  | [d1, d2, d3, d4, d5] => { results := [.lit (.bool false)], args := [d1, d2, d3, d4, d5] }
  | _ => none }
def StoreHoldsWrongFalsely : Prop := storeHoldsRow.holds Try.pinned (OpenSpec.ofChange storeHoldsWrong)

/-- 'flumelaw09.StoreWiped': WHATEVER THE INPUT: true; the input reads as it did. -/
def storeWipedSpec : ChangeSpec := { name := "storeWiped", fn := fun _ => fun
  | [d1, d2, d3, d4] => { results := [.lit (.bool true)], args := [d1, d2, d3, d4] }
  | _ => none }
def storeWipedRow : OpenClaim := { program := "ytnmifaohmafobaa", sum := "4b22a2f0a963f567ea19f1cf7c4420b5e4c2f0a0fba906b5e9f4bb0fbb3641e6", func := "flume/flumelaw09.StoreWiped", spec := "storeWiped", unfollowed := true, recurses := true, plainKeys := false, apart := false }
def StoreWipedSaid : Prop := storeWipedRow.holds Try.pinned (OpenSpec.ofChange storeWipedSpec)

/-- ITS FALSE NEIGHBOUR: 'it returns false'. Refute it at one input. -/
def storeWipedWrong : ChangeSpec := { name := "storeWiped", fn := fun _ => fun
  | [d1, d2, d3, d4] => { results := [.lit (.bool false)], args := [d1, d2, d3, d4] }
  | _ => none }
def StoreWipedWrongFalsely : Prop := storeWipedRow.holds Try.pinned (OpenSpec.ofChange storeWipedWrong)

/-- 'flumelaw09.StoreApart': WHATEVER THE INPUT: true; the input reads as it did. -/
def storeApartSpec : ChangeSpec := { name := "storeApart", fn := fun _ => fun
  | [d1, d2, d3, d4] => { results := [.lit (.bool true)], args := [d1, d2, d3, d4] }
  | _ => none }
def storeApartRow : OpenClaim := { program := "ytnmifaohmafobaa", sum := "4b22a2f0a963f567ea19f1cf7c4420b5e4c2f0a0fba906b5e9f4bb0fbb3641e6", func := "flume/flumelaw09.StoreApart", spec := "storeApart", unfollowed := true, recurses := true, plainKeys := false, apart := false }
def StoreApartSaid : Prop := storeApartRow.holds Try.pinned (OpenSpec.ofChange storeApartSpec)

/-- ITS FALSE NEIGHBOUR: 'it returns false'. Refute it at one input. -/
def storeApartWrong : ChangeSpec := { name := "storeApart", fn := fun _ => fun
  | [d1, d2, d3, d4] => { results := [.lit (.bool false)], args := [d1, d2, d3, d4] }
  | _ => none }
def StoreApartWrongFalsely : Prop := storeApartRow.holds Try.pinned (OpenSpec.ofChange storeApartWrong)

/-- 'flumelaw09.StoreNobody': WHATEVER THE INPUT: true; the input reads as it did. -/
def storeNobodySpec : ChangeSpec := { name := "storeNobody", fn := fun _ => fun
  | [d] => { results := [.lit (.bool true)], args := [d] }
  | _ => none }
def storeNobodyRow : OpenClaim := { program := "ytnmifaohmafobaa", sum := "4b22a2f0a963f567ea19f1cf7c4420b5e4c2f0a0fba906b5e9f4bb0fbb3641e6", func := "flume/flumelaw09.StoreNobody", spec := "storeNobody", unfollowed := true, recurses := true, plainKeys := false, apart := false }
def StoreNobodySaid : Prop := storeNobodyRow.holds Try.pinned (OpenSpec.ofChange storeNobodySpec)

/-- ITS FALSE NEIGHBOUR: 'it returns false'. Refute it at one input. -/
def storeNobodyWrong : ChangeSpec := { name := "storeNobody", fn := fun _ => fun
  | [d] => { results := [.lit (.bool false)], args := [d] }
  | _ => none }
def StoreNobodyWrongFalsely : Prop := storeNobodyRow.holds Try.pinned (OpenSpec.ofChange storeNobodyWrong)

/-- 'flumelaw09.StoreAgain': WHATEVER THE INPUT: true; the input reads as it did. -/
def storeAgainSpec : ChangeSpec := { name := "storeAgain", fn := fun _ => fun
  | [d1, d2, d3, d4, d5] => { results := [.lit (.bool true)], args := [d1, d2, d3, d4, d5] }
  | _ => none }
def storeAgainRow : OpenClaim := { program := "ytnmifaohmafobaa", sum := "4b22a2f0a963f567ea19f1cf7c4420b5e4c2f0a0fba906b5e9f4bb0fbb3641e6", func := "flume/flumelaw09.StoreAgain", spec := "storeAgain", unfollowed := true, recurses := true, plainKeys := false, apart := false }
def StoreAgainSaid : Prop := storeAgainRow.holds Try.pinned (OpenSpec.ofChange storeAgainSpec)

/-- ITS FALSE NEIGHBOUR: 'it returns false'. Refute it at one input. -/
def storeAgainWrong : ChangeSpec := { name := "storeAgain", fn := fun _ => fun
  | [d1, d2, d3, d4, d5] => { results := [.lit (.bool false)], args := [d1, d2, d3, d4, d5] }
  | _ => none }
def StoreAgainWrongFalsely : Prop := storeAgainRow.holds Try.pinned (OpenSpec.ofChange storeAgainWrong)

/- THE SECOND FORM. 'bulk': how many values and letters a reading holds, each counted each time it is reached (what is shared counts as often as it is met; a slice's spare places count too). A statement '..UptoSaid' is the law's where the arguments, and the package variables that the reading takes, are together of bulk at most 1048576: NARROWER than '..Said'. Prove '..Said' where nothing that the law and all that it calls make is longer than what came in: it says more and counts as full. Else prove '..UptoSaid'. A law counts once. -/
mutual
def uptoBulk {H : Type} : DataW H → Nat
  | .lit (.string bytes) => bytes.length + 1
  | .lit _ => 1
  | .nil => 1
  | .ptr d => uptoBulk d + 1
  | .slice elems spare => uptoBulkAll elems + uptoBulkAll spare + 1
  | .agg parts => uptoBulkAll parts + 1
  | .iface _ d => uptoBulk d + 1
  | .map entries => uptoBulkEntries entries + 1
  | .held _ => 1
def uptoBulkAll {H : Type} : List (DataW H) → Nat
  | [] => 0
  | d :: r => uptoBulk d + uptoBulkAll r
def uptoBulkEntries {H : Type} : List (Lit × DataW H) → Nat
  | [] => 0
  | x :: r => uptoBulkEntry x + uptoBulkEntries r
def uptoBulkEntry {H : Type} : Lit × DataW H → Nat
  | (.string bytes, d) => bytes.length + uptoBulk d + 1
  | (_, d) => uptoBulk d + 1
 end
def uptoSmall : (H : Type) → List (DataW H) → Bool := fun _ ds => decide (uptoBulkAll ds ≤ 1048576)
def OpenSpec.upto (s : _root_.Go.ChangeSpec) : _root_.Go.OpenSpec := { _root_.Go.OpenSpec.ofChange s with cond := some uptoSmall }

/-- 'flumelaw09.StorePlays', WHERE WHAT IT READS IS OF BULK AT MOST 1048576: true; the input reads as it did. -/
def storePlaysUptoRow : OpenClaim := { program := "ytnmifaohmafobaa", sum := "4b22a2f0a963f567ea19f1cf7c4420b5e4c2f0a0fba906b5e9f4bb0fbb3641e6", func := "flume/flumelaw09.StorePlays", spec := "storePlays", unfollowed := true, recurses := true, plainKeys := false, apart := false, narrowed := true }
def StorePlaysUptoSaid : Prop := storePlaysUptoRow.holds Try.pinned (OpenSpec.upto storePlaysSpec)

/-- 'flumelaw09.StoreBounds', WHERE WHAT IT READS IS OF BULK AT MOST 1048576: true; the input reads as it did. -/
def storeBoundsUptoRow : OpenClaim := { program := "ytnmifaohmafobaa", sum := "4b22a2f0a963f567ea19f1cf7c4420b5e4c2f0a0fba906b5e9f4bb0fbb3641e6", func := "flume/flumelaw09.StoreBounds", spec := "storeBounds", unfollowed := true, recurses := true, plainKeys := false, apart := false, narrowed := true }
def StoreBoundsUptoSaid : Prop := storeBoundsUptoRow.holds Try.pinned (OpenSpec.upto storeBoundsSpec)

/-- 'flumelaw09.StoreKept', WHERE WHAT IT READS IS OF BULK AT MOST 1048576: true; the input reads as it did. -/
def storeKeptUptoRow : OpenClaim := { program := "ytnmifaohmafobaa", sum := "4b22a2f0a963f567ea19f1cf7c4420b5e4c2f0a0fba906b5e9f4bb0fbb3641e6", func := "flume/flumelaw09.StoreKept", spec := "storeKept", unfollowed := true, recurses := true, plainKeys := false, apart := false, narrowed := true }
def StoreKeptUptoSaid : Prop := storeKeptUptoRow.holds Try.pinned (OpenSpec.upto storeKeptSpec)

/-- 'flumelaw09.StoreOrder', WHERE WHAT IT READS IS OF BULK AT MOST 1048576: true; the input reads as it did. -/
def storeOrderUptoRow : OpenClaim := { program := "ytnmifaohmafobaa", sum := "4b22a2f0a963f567ea19f1cf7c4420b5e4c2f0a0fba906b5e9f4bb0fbb3641e6", func := "flume/flumelaw09.StoreOrder", spec := "storeOrder", unfollowed := true, recurses := true, plainKeys := false, apart := false, narrowed := true }
def StoreOrderUptoSaid : Prop := storeOrderUptoRow.holds Try.pinned (OpenSpec.upto storeOrderSpec)

/-- 'flumelaw09.StoreLeast', WHERE WHAT IT READS IS OF BULK AT MOST 1048576: true; the input reads as it did. -/
def storeLeastUptoRow : OpenClaim := { program := "ytnmifaohmafobaa", sum := "4b22a2f0a963f567ea19f1cf7c4420b5e4c2f0a0fba906b5e9f4bb0fbb3641e6", func := "flume/flumelaw09.StoreLeast", spec := "storeLeast", unfollowed := true, recurses := true, plainKeys := false, apart := false, narrowed := true }
def StoreLeastUptoSaid : Prop := storeLeastUptoRow.holds Try.pinned (OpenSpec.upto storeLeastSpec)

/-- 'flumelaw09.StoreHolds', WHERE WHAT IT READS IS OF BULK AT MOST 1048576: true; the input reads as it did. -/
def storeHoldsUptoRow : OpenClaim := { program := "ytnmifaohmafobaa", sum := "4b22a2f0a963f567ea19f1cf7c4420b5e4c2f0a0fba906b5e9f4bb0fbb3641e6", func := "flume/flumelaw09.StoreHolds", spec := "storeHolds", unfollowed := true, recurses := true, plainKeys := false, apart := false, narrowed := true }
def StoreHoldsUptoSaid : Prop := storeHoldsUptoRow.holds Try.pinned (OpenSpec.upto storeHoldsSpec)

/-- 'flumelaw09.StoreWiped', WHERE WHAT IT READS IS OF BULK AT MOST 1048576: true; the input reads as it did. -/
def storeWipedUptoRow : OpenClaim := { program := "ytnmifaohmafobaa", sum := "4b22a2f0a963f567ea19f1cf7c4420b5e4c2f0a0fba906b5e9f4bb0fbb3641e6", func := "flume/flumelaw09.StoreWiped", spec := "storeWiped", unfollowed := true, recurses := true, plainKeys := false, apart := false, narrowed := true }
def StoreWipedUptoSaid : Prop := storeWipedUptoRow.holds Try.pinned (OpenSpec.upto storeWipedSpec)

/-- 'flumelaw09.StoreApart', WHERE WHAT IT READS IS OF BULK AT MOST 1048576: true; the input reads as it did. -/
def storeApartUptoRow : OpenClaim := { program := "ytnmifaohmafobaa", sum := "4b22a2f0a963f567ea19f1cf7c4420b5e4c2f0a0fba906b5e9f4bb0fbb3641e6", func := "flume/flumelaw09.StoreApart", spec := "storeApart", unfollowed := true, recurses := true, plainKeys := false, apart := false, narrowed := true }
def StoreApartUptoSaid : Prop := storeApartUptoRow.holds Try.pinned (OpenSpec.upto storeApartSpec)

/-- 'flumelaw09.StoreNobody', WHERE WHAT IT READS IS OF BULK AT MOST 1048576: true; the input reads as it did. -/
def storeNobodyUptoRow : OpenClaim := { program := "ytnmifaohmafobaa", sum := "4b22a2f0a963f567ea19f1cf7c4420b5e4c2f0a0fba906b5e9f4bb0fbb3641e6", func := "flume/flumelaw09.StoreNobody", spec := "storeNobody", unfollowed := true, recurses := true, plainKeys := false, apart := false, narrowed := true }
def StoreNobodyUptoSaid : Prop := storeNobodyUptoRow.holds Try.pinned (OpenSpec.upto storeNobodySpec)

/-- 'flumelaw09.StoreAgain', WHERE WHAT IT READS IS OF BULK AT MOST 1048576: true; the input reads as it did. -/
def storeAgainUptoRow : OpenClaim := { program := "ytnmifaohmafobaa", sum := "4b22a2f0a963f567ea19f1cf7c4420b5e4c2f0a0fba906b5e9f4bb0fbb3641e6", func := "flume/flumelaw09.StoreAgain", spec := "storeAgain", unfollowed := true, recurses := true, plainKeys := false, apart := false, narrowed := true }
def StoreAgainUptoSaid : Prop := storeAgainUptoRow.holds Try.pinned (OpenSpec.upto storeAgainSpec)

end Rows
end Go.Proofs.Ytnmifaohmafobaa
