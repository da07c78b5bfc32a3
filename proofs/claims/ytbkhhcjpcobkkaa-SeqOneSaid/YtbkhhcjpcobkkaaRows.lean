/-
  No cell of these rows narrows 'for every input' (looked for: loops, veiled, ifaces, maps, wideKeys, modest, calm, conditions, laid).
  DERIVED. THE GIVEN ROWS OF THIS SEAT. 10 by the template 'for every input the law returns true; each argument reads behind the call as it read before'; 0 by the template 'total and deterministic' (their statements: YtbkhhcjpcobkkaaTotals.lean).
  GIVEN WITH THE SEED: the statements are not yours to turn. If you find one false, say at which input.
  Laid BY PROGRAM, IN A SANDBOX (cutbox-rows.mjs): the forced cells as the released guide's own fill.sh prints them over the translation f3dca50fee5bb048… (all of the seat's roots in one cut). By AI agents, Wed Nov 11 2026. No macro, syntax, notation, axiom, sorry.
-/
import Derived.Test.YtbkhhcjpcobkkaaChecked
import GoSem.Claim
import GoSem.ClaimJoined
import GoSem.ClaimMapViews
import Derived.JoinedTies
import Derived.KernelRfl
namespace Go.Proofs.Ytbkhhcjpcobkkaa
/- THE CELL 'sum', in the pinned program and in every row, IS THE sha256 OF THE DUMP (.gsa) THAT YtbkhhcjpcobkkaaProg.lean LOADS. Nothing in Lean hashes anything: it is a label: what it is worth is what the hold of that sum in a sandbox is worth. -/
noncomputable def Try.pinned : Pinned := { name := "ytbkhhcjpcobkkaa", sum := "f3dca50fee5bb0484745b93d9e4b1ab4a0d8c5183f6673f3f383dc9c1e8b1b28", checked := Try.checked }
namespace Rows
def none {H : Type} : Left H := { results := [], args := [] }

/-- 'flumelaw03.SeqAdds': WHATEVER THE INPUT: true; the input reads as it did. -/
def seqAddsSpec : ChangeSpec := { name := "seqAdds", fn := fun _ => fun
  | [d1, d2, d3] => { results := [.lit (.bool true)], args := [d1, d2, d3] }
  | _ => none }
def seqAddsRow : OpenClaim := { program := "ytbkhhcjpcobkkaa", sum := "f3dca50fee5bb0484745b93d9e4b1ab4a0d8c5183f6673f3f383dc9c1e8b1b28", func := "flume/flumelaw03.SeqAdds", spec := "seqAdds", apart := false }
def SeqAddsSaid : Prop := seqAddsRow.holds Try.pinned (OpenSpec.ofChange seqAddsSpec)

/-- ITS FALSE NEIGHBOUR: 'it returns false'. Refute it at one input. -/
def seqAddsWrong : ChangeSpec := { name := "seqAdds", fn := fun _ => fun
  | [d1, d2, d3] => { results := [.lit (.bool false)], args := [d1, d2, d3] }
  | _ => none }
def SeqAddsWrongFalsely : Prop := seqAddsRow.holds Try.pinned (OpenSpec.ofChange seqAddsWrong)

/-- 'flumelaw03.SeqAheads': WHATEVER THE INPUT: true; the input reads as it did. -/
def seqAheadsSpec : ChangeSpec := { name := "seqAheads", fn := fun _ => fun
  | [d1, d2, d3] => { results := [.lit (.bool true)], args := [d1, d2, d3] }
  | _ => none }
def seqAheadsRow : OpenClaim := { program := "ytbkhhcjpcobkkaa", sum := "f3dca50fee5bb0484745b93d9e4b1ab4a0d8c5183f6673f3f383dc9c1e8b1b28", func := "flume/flumelaw03.SeqAheads", spec := "seqAheads", apart := false }
def SeqAheadsSaid : Prop := seqAheadsRow.holds Try.pinned (OpenSpec.ofChange seqAheadsSpec)

/-- ITS FALSE NEIGHBOUR: 'it returns false'. Refute it at one input. -/
def seqAheadsWrong : ChangeSpec := { name := "seqAheads", fn := fun _ => fun
  | [d1, d2, d3] => { results := [.lit (.bool false)], args := [d1, d2, d3] }
  | _ => none }
def SeqAheadsWrongFalsely : Prop := seqAheadsRow.holds Try.pinned (OpenSpec.ofChange seqAheadsWrong)

/-- 'flumelaw03.SeqClips': WHATEVER THE INPUT: true; the input reads as it did. -/
def seqClipsSpec : ChangeSpec := { name := "seqClips", fn := fun _ => fun
  | [d1, d2, d3] => { results := [.lit (.bool true)], args := [d1, d2, d3] }
  | _ => none }
def seqClipsRow : OpenClaim := { program := "ytbkhhcjpcobkkaa", sum := "f3dca50fee5bb0484745b93d9e4b1ab4a0d8c5183f6673f3f383dc9c1e8b1b28", func := "flume/flumelaw03.SeqClips", spec := "seqClips", apart := false }
def SeqClipsSaid : Prop := seqClipsRow.holds Try.pinned (OpenSpec.ofChange seqClipsSpec)

/-- ITS FALSE NEIGHBOUR: 'it returns false'. Refute it at one input. -/
def seqClipsWrong : ChangeSpec := { name := "seqClips", fn := fun _ => fun
  | [d1, d2, d3] => { results := [.lit (.bool false)], args := [d1, d2, d3] }
  | _ => none }
def SeqClipsWrongFalsely : Prop := seqClipsRow.holds Try.pinned (OpenSpec.ofChange seqClipsWrong)

/-- 'flumelaw03.SeqMosts': WHATEVER THE INPUT: true; the input reads as it did. -/
def seqMostsSpec : ChangeSpec := { name := "seqMosts", fn := fun _ => fun
  | [d1, d2] => { results := [.lit (.bool true)], args := [d1, d2] }
  | _ => none }
def seqMostsRow : OpenClaim := { program := "ytbkhhcjpcobkkaa", sum := "f3dca50fee5bb0484745b93d9e4b1ab4a0d8c5183f6673f3f383dc9c1e8b1b28", func := "flume/flumelaw03.SeqMosts", spec := "seqMosts", apart := false }
def SeqMostsSaid : Prop := seqMostsRow.holds Try.pinned (OpenSpec.ofChange seqMostsSpec)

/-- ITS FALSE NEIGHBOUR: 'it returns false'. Refute it at one input. -/
def seqMostsWrong : ChangeSpec := { name := "seqMosts", fn := fun _ => fun
  | [d1, d2] => { results := [.lit (.bool false)], args := [d1, d2] }
  | _ => none }
def SeqMostsWrongFalsely : Prop := seqMostsRow.holds Try.pinned (OpenSpec.ofChange seqMostsWrong)

/-- 'flumelaw03.SeqRound': WHATEVER THE INPUT: true; the input reads as it did. -/
def seqRoundSpec : ChangeSpec := { name := "seqRound", fn := fun _ => fun
  | [d1, d2, d3] => { results := [.lit (.bool true)], args := [d1, d2, d3] }
  | _ => none }
def seqRoundRow : OpenClaim := { program := "ytbkhhcjpcobkkaa", sum := "f3dca50fee5bb0484745b93d9e4b1ab4a0d8c5183f6673f3f383dc9c1e8b1b28", func := "flume/flumelaw03.SeqRound", spec := "seqRound", apart := false }
def SeqRoundSaid : Prop := seqRoundRow.holds Try.pinned (OpenSpec.ofChange seqRoundSpec)

/-- ITS FALSE NEIGHBOUR: 'it returns false'. Refute it at one input. -/
def seqRoundWrong : ChangeSpec := { name := "seqRound", fn := fun _ => fun
  | [d1, d2, d3] => { results := [.lit (.bool false)], args := [d1, d2, d3] }
  | _ => none }
def SeqRoundWrongFalsely : Prop := seqRoundRow.holds Try.pinned (OpenSpec.ofChange seqRoundWrong)

/-- 'flumelaw03.SeqOne': WHATEVER THE INPUT: true; the input reads as it did. -/
def seqOneSpec : ChangeSpec := { name := "seqOne", fn := fun _ => fun
  | [d1, d2, d3] => { results := [.lit (.bool true)], args := [d1, d2, d3] }
  | _ => none }
def seqOneRow : OpenClaim := { program := "ytbkhhcjpcobkkaa", sum := "f3dca50fee5bb0484745b93d9e4b1ab4a0d8c5183f6673f3f383dc9c1e8b1b28", func := "flume/flumelaw03.SeqOne", spec := "seqOne", apart := false }
def SeqOneSaid : Prop := seqOneRow.holds Try.pinned (OpenSpec.ofChange seqOneSpec)

/-- ITS FALSE NEIGHBOUR: 'it returns false'. Refute it at one input. -/
def seqOneWrong : ChangeSpec := { name := "seqOne", fn := fun _ => fun
  | [d1, d2, d3] => { results := [.lit (.bool false)], args := [d1, d2, d3] }
  | _ => none }
def SeqOneWrongFalsely : Prop := seqOneRow.holds Try.pinned (OpenSpec.ofChange seqOneWrong)

/-- 'flumelaw03.SeqClipped': WHATEVER THE INPUT: true; the input reads as it did. -/
def seqClippedSpec : ChangeSpec := { name := "seqClipped", fn := fun _ => fun
  | [d1, d2, d3, d4] => { results := [.lit (.bool true)], args := [d1, d2, d3, d4] }
  | _ => none }
def seqClippedRow : OpenClaim := { program := "ytbkhhcjpcobkkaa", sum := "f3dca50fee5bb0484745b93d9e4b1ab4a0d8c5183f6673f3f383dc9c1e8b1b28", func := "flume/flumelaw03.SeqClipped", spec := "seqClipped", apart := false }
def SeqClippedSaid : Prop := seqClippedRow.holds Try.pinned (OpenSpec.ofChange seqClippedSpec)

/-- ITS FALSE NEIGHBOUR: 'it returns false'. Refute it at one input. -/
def seqClippedWrong : ChangeSpec := { name := "seqClipped", fn := fun _ => fun
  | [d1, d2, d3, d4] => { results := [.lit (.bool false)], args := [d1, d2, d3, d4] }
  | _ => none }
def SeqClippedWrongFalsely : Prop := seqClippedRow.holds Try.pinned (OpenSpec.ofChange seqClippedWrong)

/-- 'flumelaw03.SeqMostIn': WHATEVER THE INPUT: true; the input reads as it did. -/
def seqMostInSpec : ChangeSpec := { name := "seqMostIn", fn := fun _ => fun
  | [d1, d2] => { results := [.lit (.bool true)], args := [d1, d2] }
  | _ => none }
def seqMostInRow : OpenClaim := { program := "ytbkhhcjpcobkkaa", sum := "f3dca50fee5bb0484745b93d9e4b1ab4a0d8c5183f6673f3f383dc9c1e8b1b28", func := "flume/flumelaw03.SeqMostIn", spec := "seqMostIn", apart := false }
def SeqMostInSaid : Prop := seqMostInRow.holds Try.pinned (OpenSpec.ofChange seqMostInSpec)

/-- ITS FALSE NEIGHBOUR: 'it returns false'. Refute it at one input. -/
def seqMostInWrong : ChangeSpec := { name := "seqMostIn", fn := fun _ => fun
  | [d1, d2] => { results := [.lit (.bool false)], args := [d1, d2] }
  | _ => none }
def SeqMostInWrongFalsely : Prop := seqMostInRow.holds Try.pinned (OpenSpec.ofChange seqMostInWrong)

/-- 'flumelaw03.SeqMoved': WHATEVER THE INPUT: true; the input reads as it did. -/
def seqMovedSpec : ChangeSpec := { name := "seqMoved", fn := fun _ => fun
  | [d1, d2, d3, d4] => { results := [.lit (.bool true)], args := [d1, d2, d3, d4] }
  | _ => none }
def seqMovedRow : OpenClaim := { program := "ytbkhhcjpcobkkaa", sum := "f3dca50fee5bb0484745b93d9e4b1ab4a0d8c5183f6673f3f383dc9c1e8b1b28", func := "flume/flumelaw03.SeqMoved", spec := "seqMoved", apart := false }
def SeqMovedSaid : Prop := seqMovedRow.holds Try.pinned (OpenSpec.ofChange seqMovedSpec)

/-- ITS FALSE NEIGHBOUR: 'it returns false'. Refute it at one input. -/
def seqMovedWrong : ChangeSpec := { name := "seqMoved", fn := fun _ => fun
  | [d1, d2, d3, d4] => { results := [.lit (.bool false)], args := [d1, d2, d3, d4] }
  | _ => none }
def SeqMovedWrongFalsely : Prop := seqMovedRow.holds Try.pinned (OpenSpec.ofChange seqMovedWrong)

/-- 'flumelaw03.SeqParts': WHATEVER THE INPUT: true; the input reads as it did. -/
def seqPartsSpec : ChangeSpec := { name := "seqParts", fn := fun _ => fun
  | [d1, d2, d3, d4] => { results := [.lit (.bool true)], args := [d1, d2, d3, d4] }
  | _ => none }
def seqPartsRow : OpenClaim := { program := "ytbkhhcjpcobkkaa", sum := "f3dca50fee5bb0484745b93d9e4b1ab4a0d8c5183f6673f3f383dc9c1e8b1b28", func := "flume/flumelaw03.SeqParts", spec := "seqParts", apart := false }
def SeqPartsSaid : Prop := seqPartsRow.holds Try.pinned (OpenSpec.ofChange seqPartsSpec)

/-- ITS FALSE NEIGHBOUR: 'it returns false'. Refute it at one input. -/
def seqPartsWrong : ChangeSpec := { name := "seqParts", fn := fun _ => fun
  | [d1, d2, d3, d4] => { results := [.lit (.bool false)], args := [d1, d2, d3, d4] }
  | _ => none }
def SeqPartsWrongFalsely : Prop := seqPartsRow.holds Try.pinned (OpenSpec.ofChange seqPartsWrong)

/- THE SECOND FORM. 'bulk': how many values and letters a reading holds, each counted each time it is reached (what is shared counts as often as it is met; a slice's spare places count too). A statement '..UptoSaid' is the law's where the arguments, and the package variables that the reading takes, are together of bulk at most 1048576: NARROWER than '..Said'. Prove '..Said' where nothing that the law and all that it calls make is longer than what came in: it says more and counts as full. Else prove '..UptoSaid'. A law counts once. -/
mutual
def uptoBulk {H : Type} : DataW H → Nat
  | .lit (.string bytes) => bytes.length + 1
  | .lit _ => 1
  | .nil => 1
  | .ptr d => uptoBulk d + 1
  | .slice elems spare => uptoBulkAll elems + uptoBulkAll spare + 1
  | .agg parts => uptoBulkAll parts + 1
  | .iface _ d => uptoBulk d + 1
  | .map entries => uptoBulkEntries entries + 1
  | .held _ => 1
def uptoBulkAll {H : Type} : List (DataW H) → Nat
  | [] => 0
  | d :: r => uptoBulk d + uptoBulkAll r
def uptoBulkEntries {H : Type} : List (Lit × DataW H) → Nat
  | [] => 0
  | x :: r => uptoBulkEntry x + uptoBulkEntries r
def uptoBulkEntry {H : Type} : Lit × DataW H → Nat
  | (.string bytes, d) => bytes.length + uptoBulk d + 1
  | (_, d) => uptoBulk d + 1
 end
def uptoSmall : (H : Type) → List (DataW H) → Bool := fun _ ds => decide (uptoBulkAll ds ≤ 1048576)
def OpenSpec.upto (s : _root_.Go.ChangeSpec) : _root_.Go.OpenSpec := { _root_.Go.OpenSpec.ofChange s with cond := some uptoSmall }

/-- 'flumelaw03.SeqAdds', WHERE WHAT IT READS IS OF BULK AT MOST 1048576: true; the input reads as it did. -/
def seqAddsUptoRow : OpenClaim := { program := "ytbkhhcjpcobkkaa", sum := "f3dca50fee5bb0484745b93d9e4b1ab4a0d8c5183f6673f3f383dc9c1e8b1b28", func := "flume/flumelaw03.SeqAdds", spec := "seqAdds", apart := false, narrowed := true }
def SeqAddsUptoSaid : Prop := seqAddsUptoRow.holds Try.pinned (OpenSpec.upto seqAddsSpec)

/-- 'flumelaw03.SeqAheads', WHERE WHAT IT READS IS OF BULK AT MOST 1048576: true; the input reads as it did. -/
def seqAheadsUptoRow : OpenClaim := { program := "ytbkhhcjpcobkkaa", sum := "f3dca50fee5bb0484745b93d9e4b1ab4a0d8c5183f6673f3f383dc9c1e8b1b28", func := "flume/flumelaw03.SeqAheads", spec := "seqAheads", apart := false, narrowed := true }
def SeqAheadsUptoSaid : Prop := seqAheadsUptoRow.holds Try.pinned (OpenSpec.upto seqAheadsSpec)

/-- 'flumelaw03.SeqClips', WHERE WHAT IT READS IS OF BULK AT MOST 1048576: true; the input reads as it did. -/
def seqClipsUptoRow : OpenClaim := { program := "ytbkhhcjpcobkkaa", sum := "f3dca50fee5bb0484745b93d9e4b1ab4a0d8c5183f6673f3f383dc9c1e8b1b28", func := "flume/flumelaw03.SeqClips", spec := "seqClips", apart := false, narrowed := true }
def SeqClipsUptoSaid : Prop := seqClipsUptoRow.holds Try.pinned (OpenSpec.upto seqClipsSpec)

/-- 'flumelaw03.SeqMosts', WHERE WHAT IT READS IS OF BULK AT MOST 1048576: true; the input reads as it did. -/
def seqMostsUptoRow : OpenClaim := { program := "ytbkhhcjpcobkkaa", sum := "f3dca50fee5bb0484745b93d9e4b1ab4a0d8c5183f6673f3f383dc9c1e8b1b28", func := "flume/flumelaw03.SeqMosts", spec := "seqMosts", apart := false, narrowed := true }
def SeqMostsUptoSaid : Prop := seqMostsUptoRow.holds Try.pinned (OpenSpec.upto seqMostsSpec)

/-- 'flumelaw03.SeqRound', WHERE WHAT IT READS IS OF BULK AT MOST 1048576: true; the input reads as it did. -/
def seqRoundUptoRow : OpenClaim := { program := "ytbkhhcjpcobkkaa", sum := "f3dca50fee5bb0484745b93d9e4b1ab4a0d8c5183f6673f3f383dc9c1e8b1b28", func := "flume/flumelaw03.SeqRound", spec := "seqRound", apart := false, narrowed := true }
def SeqRoundUptoSaid : Prop := seqRoundUptoRow.holds Try.pinned (OpenSpec.upto seqRoundSpec)

/-- 'flumelaw03.SeqOne', WHERE WHAT IT READS IS OF BULK AT MOST 1048576: true; the input reads as it did. -/
def seqOneUptoRow : OpenClaim := { program := "ytbkhhcjpcobkkaa", sum := "f3dca50fee5bb0484745b93d9e4b1ab4a0d8c5183f6673f3f383dc9c1e8b1b28", func := "flume/flumelaw03.SeqOne", spec := "seqOne", apart := false, narrowed := true }
def SeqOneUptoSaid : Prop := seqOneUptoRow.holds Try.pinned (OpenSpec.upto seqOneSpec)

/-- 'flumelaw03.SeqClipped', WHERE WHAT IT READS IS OF BULK AT MOST 1048576: true; the input reads as it did. -/
def seqClippedUptoRow : OpenClaim := { program := "ytbkhhcjpcobkkaa", sum := "f3dca50fee5bb0484745b93d9e4b1ab4a0d8c5183f6673f3f383dc9c1e8b1b28", func := "flume/flumelaw03.SeqClipped", spec := "seqClipped", apart := false, narrowed := true }
def SeqClippedUptoSaid : Prop := seqClippedUptoRow.holds Try.pinned (OpenSpec.upto seqClippedSpec)

/-- 'flumelaw03.SeqMostIn', WHERE WHAT IT READS IS OF BULK AT MOST 1048576: true; the input reads as it did. -/
def seqMostInUptoRow : OpenClaim := { program := "ytbkhhcjpcobkkaa", sum := "f3dca50fee5bb0484745b93d9e4b1ab4a0d8c5183f6673f3f383dc9c1e8b1b28", func := "flume/flumelaw03.SeqMostIn", spec := "seqMostIn", apart := false, narrowed := true }
def SeqMostInUptoSaid : Prop := seqMostInUptoRow.holds Try.pinned (OpenSpec.upto seqMostInSpec)

/-- 'flumelaw03.SeqMoved', WHERE WHAT IT READS IS OF BULK AT MOST 1048576: true; the input reads as it did. -/
def seqMovedUptoRow : OpenClaim := { program := "ytbkhhcjpcobkkaa", sum := "f3dca50fee5bb0484745b93d9e4b1ab4a0d8c5183f6673f3f383dc9c1e8b1b28", func := "flume/flumelaw03.SeqMoved", spec := "seqMoved", apart := false, narrowed := true }
def SeqMovedUptoSaid : Prop := seqMovedUptoRow.holds Try.pinned (OpenSpec.upto seqMovedSpec)

/-- 'flumelaw03.SeqParts', WHERE WHAT IT READS IS OF BULK AT MOST 1048576: true; the input reads as it did. -/
def seqPartsUptoRow : OpenClaim := { program := "ytbkhhcjpcobkkaa", sum := "f3dca50fee5bb0484745b93d9e4b1ab4a0d8c5183f6673f3f383dc9c1e8b1b28", func := "flume/flumelaw03.SeqParts", spec := "seqParts", apart := false, narrowed := true }
def SeqPartsUptoSaid : Prop := seqPartsUptoRow.holds Try.pinned (OpenSpec.upto seqPartsSpec)

end Rows
end Go.Proofs.Ytbkhhcjpcobkkaa
