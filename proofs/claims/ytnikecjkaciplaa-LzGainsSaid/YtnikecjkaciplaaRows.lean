/-
  No cell of these rows narrows 'for every input' (looked for: loops, veiled, ifaces, maps, wideKeys, modest, calm, conditions, laid).
  DERIVED. THE GIVEN ROWS OF THIS SEAT. 8 by the template 'for every input the law returns true; each argument reads behind the call as it read before'; 0 by the template 'total and deterministic' (their statements: YtnikecjkaciplaaTotals.lean).
  GIVEN WITH THE SEED: the statements are not yours to turn. If you find one false, say at which input.
  Laid BY PROGRAM, IN A SANDBOX (cutbox-rows.mjs): the forced cells as the released guide's own fill.sh prints them over the translation 9a11e21e237d5de5… (all of the seat's roots in one cut). By AI agents, Wed Nov 11 2026. No macro, syntax, notation, axiom, sorry.
-/
import Derived.Test.YtnikecjkaciplaaChecked
import GoSem.Claim
import GoSem.ClaimJoined
import GoSem.ClaimMapViews
import Derived.JoinedTies
import Derived.KernelRfl
namespace Go.Proofs.Ytnikecjkaciplaa
/- THE CELL 'sum', in the pinned program and in every row, IS THE sha256 OF THE DUMP (.gsa) THAT YtnikecjkaciplaaProg.lean LOADS. Nothing in Lean hashes anything: it is a label: what it is worth is what the hold of that sum in a sandbox is worth. -/
noncomputable def Try.pinned : Pinned := { name := "ytnikecjkaciplaa", sum := "9a11e21e237d5de5b41c96ee040d62df5352fc51f21dde24b4994b0bdfb16033", checked := Try.checked }
namespace Rows
def none {H : Type} : Left H := { results := [], args := [] }

/-- 'flumelaw07.LzShortens': WHATEVER THE INPUT: true; the input reads as it did. -/
def lzShortensSpec : ChangeSpec := { name := "lzShortens", fn := fun _ => fun
  | [d] => { results := [.lit (.bool true)], args := [d] }
  | _ => none }
def lzShortensRow : OpenClaim := { program := "ytnikecjkaciplaa", sum := "9a11e21e237d5de5b41c96ee040d62df5352fc51f21dde24b4994b0bdfb16033", func := "flume/flumelaw07.LzShortens", spec := "lzShortens", unfollowed := true, recurses := true, plainKeys := false, apart := false }
def LzShortensSaid : Prop := lzShortensRow.holds Try.pinned (OpenSpec.ofChange lzShortensSpec)

/-- ITS FALSE NEIGHBOUR: 'it returns false'. Refute it at one input. -/
def lzShortensWrong : ChangeSpec := { name := "lzShortens", fn := fun _ => fun
  | [d] => { results := [.lit (.bool false)], args := [d] }
  | _ => none }
def LzShortensWrongFalsely : Prop := lzShortensRow.holds Try.pinned (OpenSpec.ofChange lzShortensWrong)

/-- 'flumelaw07.LzRestores': WHATEVER THE INPUT: true; the input reads as it did. -/
def lzRestoresSpec : ChangeSpec := { name := "lzRestores", fn := fun _ => fun
  | [d1, d2] => { results := [.lit (.bool true)], args := [d1, d2] }
  | _ => none }
def lzRestoresRow : OpenClaim := { program := "ytnikecjkaciplaa", sum := "9a11e21e237d5de5b41c96ee040d62df5352fc51f21dde24b4994b0bdfb16033", func := "flume/flumelaw07.LzRestores", spec := "lzRestores", unfollowed := true, recurses := true, plainKeys := false, apart := false }
def LzRestoresSaid : Prop := lzRestoresRow.holds Try.pinned (OpenSpec.ofChange lzRestoresSpec)

/-- ITS FALSE NEIGHBOUR: 'it returns false'. Refute it at one input. -/
def lzRestoresWrong : ChangeSpec := { name := "lzRestores", fn := fun _ => fun
  | [d1, d2] => { results := [.lit (.bool false)], args := [d1, d2] }
  | _ => none }
def LzRestoresWrongFalsely : Prop := lzRestoresRow.holds Try.pinned (OpenSpec.ofChange lzRestoresWrong)

/-- 'flumelaw07.LzBack': WHATEVER THE INPUT: true; the input reads as it did. -/
def lzBackSpec : ChangeSpec := { name := "lzBack", fn := fun _ => fun
  | [d] => { results := [.lit (.bool true)], args := [d] }
  | _ => none }
def lzBackRow : OpenClaim := { program := "ytnikecjkaciplaa", sum := "9a11e21e237d5de5b41c96ee040d62df5352fc51f21dde24b4994b0bdfb16033", func := "flume/flumelaw07.LzBack", spec := "lzBack", unfollowed := true, recurses := true, plainKeys := false, apart := false }
def LzBackSaid : Prop := lzBackRow.holds Try.pinned (OpenSpec.ofChange lzBackSpec)

/-- ITS FALSE NEIGHBOUR: 'it returns false'. Refute it at one input. -/
def lzBackWrong : ChangeSpec := { name := "lzBack", fn := fun _ => fun
  | [d] => { results := [.lit (.bool false)], args := [d] }
  | _ => none }
def LzBackWrongFalsely : Prop := lzBackRow.holds Try.pinned (OpenSpec.ofChange lzBackWrong)

/-- 'flumelaw07.LzBounds': WHATEVER THE INPUT: true; the input reads as it did. -/
def lzBoundsSpec : ChangeSpec := { name := "lzBounds", fn := fun _ => fun
  | [d1, d2, d3] => { results := [.lit (.bool true)], args := [d1, d2, d3] }
  | _ => none }
def lzBoundsRow : OpenClaim := { program := "ytnikecjkaciplaa", sum := "9a11e21e237d5de5b41c96ee040d62df5352fc51f21dde24b4994b0bdfb16033", func := "flume/flumelaw07.LzBounds", spec := "lzBounds", unfollowed := true, recurses := true, plainKeys := false, apart := false }
def LzBoundsSaid : Prop := lzBoundsRow.holds Try.pinned (OpenSpec.ofChange lzBoundsSpec)

/-- ITS FALSE NEIGHBOUR: 'it returns false'. Refute it at one input. -/
def lzBoundsWrong : ChangeSpec := { name := "lzBounds", fn := fun _ => fun
  | [d1, d2, d3] => { results := [.lit (.bool false)], args := [d1, d2, d3] }
  | _ => none }
def LzBoundsWrongFalsely : Prop := lzBoundsRow.holds Try.pinned (OpenSpec.ofChange lzBoundsWrong)

/-- 'flumelaw07.LzBehind': WHATEVER THE INPUT: true; the input reads as it did. -/
def lzBehindSpec : ChangeSpec := { name := "lzBehind", fn := fun _ => fun
  | [d1, d2] => { results := [.lit (.bool true)], args := [d1, d2] }
  | _ => none }
def lzBehindRow : OpenClaim := { program := "ytnikecjkaciplaa", sum := "9a11e21e237d5de5b41c96ee040d62df5352fc51f21dde24b4994b0bdfb16033", func := "flume/flumelaw07.LzBehind", spec := "lzBehind", unfollowed := true, recurses := true, plainKeys := false, apart := false }
def LzBehindSaid : Prop := lzBehindRow.holds Try.pinned (OpenSpec.ofChange lzBehindSpec)

/-- ITS FALSE NEIGHBOUR: 'it returns false'. Refute it at one input. -/
def lzBehindWrong : ChangeSpec := { name := "lzBehind", fn := fun _ => fun
  | [d1, d2] => { results := [.lit (.bool false)], args := [d1, d2] }
  | _ => none }
def LzBehindWrongFalsely : Prop := lzBehindRow.holds Try.pinned (OpenSpec.ofChange lzBehindWrong)

/-- 'flumelaw07.LzTwice': WHATEVER THE INPUT: true; the input reads as it did. -/
def lzTwiceSpec : ChangeSpec := { name := "lzTwice", fn := fun _ => fun
  | [d1, d2] => { results := [.lit (.bool true)], args := [d1, d2] }
  | _ => none }
def lzTwiceRow : OpenClaim := { program := "ytnikecjkaciplaa", sum := "9a11e21e237d5de5b41c96ee040d62df5352fc51f21dde24b4994b0bdfb16033", func := "flume/flumelaw07.LzTwice", spec := "lzTwice", unfollowed := true, recurses := true, plainKeys := false, apart := false }
def LzTwiceSaid : Prop := lzTwiceRow.holds Try.pinned (OpenSpec.ofChange lzTwiceSpec)

/-- ITS FALSE NEIGHBOUR: 'it returns false'. Refute it at one input. -/
def lzTwiceWrong : ChangeSpec := { name := "lzTwice", fn := fun _ => fun
  | [d1, d2] => { results := [.lit (.bool false)], args := [d1, d2] }
  | _ => none }
def LzTwiceWrongFalsely : Prop := lzTwiceRow.holds Try.pinned (OpenSpec.ofChange lzTwiceWrong)

/-- 'flumelaw07.LzRoom': WHATEVER THE INPUT: true; the input reads as it did. -/
def lzRoomSpec : ChangeSpec := { name := "lzRoom", fn := fun _ => fun
  | [d1, d2] => { results := [.lit (.bool true)], args := [d1, d2] }
  | _ => none }
def lzRoomRow : OpenClaim := { program := "ytnikecjkaciplaa", sum := "9a11e21e237d5de5b41c96ee040d62df5352fc51f21dde24b4994b0bdfb16033", func := "flume/flumelaw07.LzRoom", spec := "lzRoom", unfollowed := true, recurses := true, plainKeys := false, apart := false }
def LzRoomSaid : Prop := lzRoomRow.holds Try.pinned (OpenSpec.ofChange lzRoomSpec)

/-- ITS FALSE NEIGHBOUR: 'it returns false'. Refute it at one input. -/
def lzRoomWrong : ChangeSpec := { name := "lzRoom", fn := fun _ => fun
  | [d1, d2] => { results := [.lit (.bool false)], args := [d1, d2] }
  | _ => none }
def LzRoomWrongFalsely : Prop := lzRoomRow.holds Try.pinned (OpenSpec.ofChange lzRoomWrong)

/-- 'flumelaw07.LzGains': WHATEVER THE INPUT: true; the input reads as it did. -/
def lzGainsSpec : ChangeSpec := { name := "lzGains", fn := fun _ => fun
  | [d1, d2] => { results := [.lit (.bool true)], args := [d1, d2] }
  | _ => none }
def lzGainsRow : OpenClaim := { program := "ytnikecjkaciplaa", sum := "9a11e21e237d5de5b41c96ee040d62df5352fc51f21dde24b4994b0bdfb16033", func := "flume/flumelaw07.LzGains", spec := "lzGains", inPlace := ["internal/bytealg.MakeNoZero"], unfollowed := true, recurses := true, plainKeys := false, apart := false }
def LzGainsSaid : Prop := lzGainsRow.holds Try.pinned (OpenSpec.ofChange lzGainsSpec)

/-- ITS FALSE NEIGHBOUR: 'it returns false'. Refute it at one input. -/
def lzGainsWrong : ChangeSpec := { name := "lzGains", fn := fun _ => fun
  | [d1, d2] => { results := [.lit (.bool false)], args := [d1, d2] }
  | _ => none }
def LzGainsWrongFalsely : Prop := lzGainsRow.holds Try.pinned (OpenSpec.ofChange lzGainsWrong)

/- THE SECOND FORM. 'bulk': how many values and letters a reading holds, each counted each time it is reached (what is shared counts as often as it is met; a slice's spare places count too). A statement '..UptoSaid' is the law's where the arguments, and the package variables that the reading takes, are together of bulk at most 1048576: NARROWER than '..Said'. Prove '..Said' where nothing that the law and all that it calls make is longer than what came in: it says more and counts as full. Else prove '..UptoSaid'. A law counts once. -/
mutual
def uptoBulk {H : Type} : DataW H → Nat
  | .lit (.string bytes) => bytes.length + 1
  | .lit _ => 1
  | .nil => 1
  | .ptr d => uptoBulk d + 1
  | .slice elems spare => uptoBulkAll elems + uptoBulkAll spare + 1
  | .agg parts => uptoBulkAll parts + 1
  | .iface _ d => uptoBulk d + 1
  | .map entries => uptoBulkEntries entries + 1
  | .held _ => 1
def uptoBulkAll {H : Type} : List (DataW H) → Nat
  | [] => 0
  | d :: r => uptoBulk d + uptoBulkAll r
def uptoBulkEntries {H : Type} : List (Lit × DataW H) → Nat
  | [] => 0
  | x :: r => uptoBulkEntry x + uptoBulkEntries r
def uptoBulkEntry {H : Type} : Lit × DataW H → Nat
  | (.string bytes, d) => bytes.length + uptoBulk d + 1
  | (_, d) => uptoBulk d + 1
 end
def uptoSmall : (H : Type) → List (DataW H) → Bool := fun _ ds => decide (uptoBulkAll ds ≤ 1048576)
def OpenSpec.upto (s : _root_.Go.ChangeSpec) : _root_.Go.OpenSpec := { _root_.Go.OpenSpec.ofChange s with cond := some uptoSmall }

/-- 'flumelaw07.LzShortens', WHERE WHAT IT READS IS OF BULK AT MOST 1048576: true; the input reads as it did. -/
def lzShortensUptoRow : OpenClaim := { program := "ytnikecjkaciplaa", sum := "9a11e21e237d5de5b41c96ee040d62df5352fc51f21dde24b4994b0bdfb16033", func := "flume/flumelaw07.LzShortens", spec := "lzShortens", unfollowed := true, recurses := true, plainKeys := false, apart := false, narrowed := true }
def LzShortensUptoSaid : Prop := lzShortensUptoRow.holds Try.pinned (OpenSpec.upto lzShortensSpec)

/-- 'flumelaw07.LzRestores', WHERE WHAT IT READS IS OF BULK AT MOST 1048576: true; the input reads as it did. -/
def lzRestoresUptoRow : OpenClaim := { program := "ytnikecjkaciplaa", sum := "9a11e21e237d5de5b41c96ee040d62df5352fc51f21dde24b4994b0bdfb16033", func := "flume/flumelaw07.LzRestores", spec := "lzRestores", unfollowed := true, recurses := true, plainKeys := false, apart := false, narrowed := true }
def LzRestoresUptoSaid : Prop := lzRestoresUptoRow.holds Try.pinned (OpenSpec.upto lzRestoresSpec)

/-- 'flumelaw07.LzBack', WHERE WHAT IT READS IS OF BULK AT MOST 1048576: true; the input reads as it did. -/
def lzBackUptoRow : OpenClaim := { program := "ytnikecjkaciplaa", sum := "9a11e21e237d5de5b41c96ee040d62df5352fc51f21dde24b4994b0bdfb16033", func := "flume/flumelaw07.LzBack", spec := "lzBack", unfollowed := true, recurses := true, plainKeys := false, apart := false, narrowed := true }
def LzBackUptoSaid : Prop := lzBackUptoRow.holds Try.pinned (OpenSpec.upto lzBackSpec)

/-- 'flumelaw07.LzBounds', WHERE WHAT IT READS IS OF BULK AT MOST 1048576: true; the input reads as it did. -/
def lzBoundsUptoRow : OpenClaim := { program := "ytnikecjkaciplaa", sum := "9a11e21e237d5de5b41c96ee040d62df5352fc51f21dde24b4994b0bdfb16033", func := "flume/flumelaw07.LzBounds", spec := "lzBounds", unfollowed := true, recurses := true, plainKeys := false, apart := false, narrowed := true }
def LzBoundsUptoSaid : Prop := lzBoundsUptoRow.holds Try.pinned (OpenSpec.upto lzBoundsSpec)

/-- 'flumelaw07.LzBehind', WHERE WHAT IT READS IS OF BULK AT MOST 1048576: true; the input reads as it did. -/
def lzBehindUptoRow : OpenClaim := { program := "ytnikecjkaciplaa", sum := "9a11e21e237d5de5b41c96ee040d62df5352fc51f21dde24b4994b0bdfb16033", func := "flume/flumelaw07.LzBehind", spec := "lzBehind", unfollowed := true, recurses := true, plainKeys := false, apart := false, narrowed := true }
def LzBehindUptoSaid : Prop := lzBehindUptoRow.holds Try.pinned (OpenSpec.upto lzBehindSpec)

/-- 'flumelaw07.LzTwice', WHERE WHAT IT READS IS OF BULK AT MOST 1048576: true; the input reads as it did. -/
def lzTwiceUptoRow : OpenClaim := { program := "ytnikecjkaciplaa", sum := "9a11e21e237d5de5b41c96ee040d62df5352fc51f21dde24b4994b0bdfb16033", func := "flume/flumelaw07.LzTwice", spec := "lzTwice", unfollowed := true, recurses := true, plainKeys := false, apart := false, narrowed := true }
def LzTwiceUptoSaid : Prop := lzTwiceUptoRow.holds Try.pinned (OpenSpec.upto lzTwiceSpec)

/-- 'flumelaw07.LzRoom', WHERE WHAT IT READS IS OF BULK AT MOST 1048576: true; the input reads as it did. -/
def lzRoomUptoRow : OpenClaim := { program := "ytnikecjkaciplaa", sum := "9a11e21e237d5de5b41c96ee040d62df5352fc51f21dde24b4994b0bdfb16033", func := "flume/flumelaw07.LzRoom", spec := "lzRoom", unfollowed := true, recurses := true, plainKeys := false, apart := false, narrowed := true }
def LzRoomUptoSaid : Prop := lzRoomUptoRow.holds Try.pinned (OpenSpec.upto lzRoomSpec)

/-- 'flumelaw07.LzGains', WHERE WHAT IT READS IS OF BULK AT MOST 1048576: true; the input reads as it did. -/
def lzGainsUptoRow : OpenClaim := { program := "ytnikecjkaciplaa", sum := "9a11e21e237d5de5b41c96ee040d62df5352fc51f21dde24b4994b0bdfb16033", func := "flume/flumelaw07.LzGains", spec := "lzGains", inPlace := ["internal/bytealg.MakeNoZero"], unfollowed := true, recurses := true, plainKeys := false, apart := false, narrowed := true }
def LzGainsUptoSaid : Prop := lzGainsUptoRow.holds Try.pinned (OpenSpec.upto lzGainsSpec)

end Rows
end Go.Proofs.Ytnikecjkaciplaa
