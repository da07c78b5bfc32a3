/-
  No cell of these rows narrows 'for every input' (looked for: loops, veiled, ifaces, maps, wideKeys, modest, calm, conditions, laid).
  DERIVED. THE GIVEN ROWS OF THIS SEAT. 12 by the template 'for every input the law returns true; each argument reads behind the call as it read before'; 0 by the template 'total and deterministic' (their statements: YtjogiobhgmbboaaTotals.lean).
  GIVEN WITH THE SEED: the statements are not yours to turn. If you find one false, say at which input.
  Laid BY PROGRAM, IN A SANDBOX (cutbox-rows.mjs): the forced cells as the released guide's own fill.sh prints them over the translation edb466ba265336f5… (all of the seat's roots in one cut). By AI agents, Wed Nov 11 2026. No macro, syntax, notation, axiom, sorry.
-/
import Derived.Test.YtjogiobhgmbboaaChecked
import GoSem.Claim
import GoSem.ClaimJoined
import GoSem.ClaimMapViews
import Derived.JoinedTies
import Derived.KernelRfl
namespace Go.Proofs.Ytjogiobhgmbboaa
/- THE CELL 'sum', in the pinned program and in every row, IS THE sha256 OF THE DUMP (.gsa) THAT YtjogiobhgmbboaaProg.lean LOADS. Nothing in Lean hashes anything: it is a label: what it is worth is what the hold of that sum in a sandbox is worth. -/
noncomputable def Try.pinned : Pinned := { name := "ytjogiobhgmbboaa", sum := "edb466ba265336f58e7af19e15c8d5b77a4f6ef6fe735ac158fea0894493fb14", checked := Try.checked }
namespace Rows
def none {H : Type} : Left H := { results := [], args := [] }

/-- 'flumelaw05.RabinMods': WHATEVER THE INPUT: true; the input reads as it did. -/
def rabinModsSpec : ChangeSpec := { name := "rabinMods", fn := fun _ => fun
  | [d1, d2] => { results := [.lit (.bool true)], args := [d1, d2] }
  | _ => none }
def rabinModsRow : OpenClaim := { program := "ytjogiobhgmbboaa", sum := "edb466ba265336f58e7af19e15c8d5b77a4f6ef6fe735ac158fea0894493fb14", func := "flume/flumelaw05.RabinMods", spec := "rabinMods", inPlace := ["sync/atomic.LoadUint32", "(*internal/sync.Mutex).Lock", "internal/race.Disable", "sync/atomic.CompareAndSwapInt32", "internal/race.Enable", "internal/race.Acquire", "(*internal/sync.Mutex).lockSlow", "internal/sync.runtime_canSpin", "internal/sync.runtime_doSpin", "internal/sync.throw", "internal/sync.runtime_nanotime", "internal/sync.runtime_SemacquireMutex", "sync/atomic.AddInt32", "(*internal/sync.Mutex).Unlock", "internal/race.ReleaseMerge", "(*internal/sync.Mutex).unlockSlow", "internal/sync.fatal", "internal/sync.runtime_Semrelease", "sync/atomic.StoreUint32"], unfollowed := true, recurses := true, apart := false }
def RabinModsSaid : Prop := rabinModsRow.holds Try.pinned (OpenSpec.ofChange rabinModsSpec)

/-- ITS FALSE NEIGHBOUR: 'it returns false'. Refute it at one input. -/
def rabinModsWrong : ChangeSpec := { name := "rabinMods", fn := fun _ => fun
  | [d1, d2] => { results := [.lit (.bool false)], args := [d1, d2] }
  | _ => none }
def RabinModsWrongFalsely : Prop := rabinModsRow.holds Try.pinned (OpenSpec.ofChange rabinModsWrong)

/-- 'flumelaw05.RabinMuls': WHATEVER THE INPUT: true; the input reads as it did. -/
def rabinMulsSpec : ChangeSpec := { name := "rabinMuls", fn := fun _ => fun
  | [d1, d2, d3] => { results := [.lit (.bool true)], args := [d1, d2, d3] }
  | _ => none }
def rabinMulsRow : OpenClaim := { program := "ytjogiobhgmbboaa", sum := "edb466ba265336f58e7af19e15c8d5b77a4f6ef6fe735ac158fea0894493fb14", func := "flume/flumelaw05.RabinMuls", spec := "rabinMuls", inPlace := ["sync/atomic.LoadUint32", "(*internal/sync.Mutex).Lock", "internal/race.Disable", "sync/atomic.CompareAndSwapInt32", "internal/race.Enable", "internal/race.Acquire", "(*internal/sync.Mutex).lockSlow", "internal/sync.runtime_canSpin", "internal/sync.runtime_doSpin", "internal/sync.throw", "internal/sync.runtime_nanotime", "internal/sync.runtime_SemacquireMutex", "sync/atomic.AddInt32", "(*internal/sync.Mutex).Unlock", "internal/race.ReleaseMerge", "(*internal/sync.Mutex).unlockSlow", "internal/sync.fatal", "internal/sync.runtime_Semrelease", "sync/atomic.StoreUint32"], unfollowed := true, recurses := true, apart := false }
def RabinMulsSaid : Prop := rabinMulsRow.holds Try.pinned (OpenSpec.ofChange rabinMulsSpec)

/-- ITS FALSE NEIGHBOUR: 'it returns false'. Refute it at one input. -/
def rabinMulsWrong : ChangeSpec := { name := "rabinMuls", fn := fun _ => fun
  | [d1, d2, d3] => { results := [.lit (.bool false)], args := [d1, d2, d3] }
  | _ => none }
def RabinMulsWrongFalsely : Prop := rabinMulsRow.holds Try.pinned (OpenSpec.ofChange rabinMulsWrong)

/-- 'flumelaw05.RabinGcds': WHATEVER THE INPUT: true; the input reads as it did. -/
def rabinGcdsSpec : ChangeSpec := { name := "rabinGcds", fn := fun _ => fun
  | [d1, d2] => { results := [.lit (.bool true)], args := [d1, d2] }
  | _ => none }
def rabinGcdsRow : OpenClaim := { program := "ytjogiobhgmbboaa", sum := "edb466ba265336f58e7af19e15c8d5b77a4f6ef6fe735ac158fea0894493fb14", func := "flume/flumelaw05.RabinGcds", spec := "rabinGcds", inPlace := ["sync/atomic.LoadUint32", "(*internal/sync.Mutex).Lock", "internal/race.Disable", "sync/atomic.CompareAndSwapInt32", "internal/race.Enable", "internal/race.Acquire", "(*internal/sync.Mutex).lockSlow", "internal/sync.runtime_canSpin", "internal/sync.runtime_doSpin", "internal/sync.throw", "internal/sync.runtime_nanotime", "internal/sync.runtime_SemacquireMutex", "sync/atomic.AddInt32", "(*internal/sync.Mutex).Unlock", "internal/race.ReleaseMerge", "(*internal/sync.Mutex).unlockSlow", "internal/sync.fatal", "internal/sync.runtime_Semrelease", "sync/atomic.StoreUint32"], unfollowed := true, recurses := true, apart := false }
def RabinGcdsSaid : Prop := rabinGcdsRow.holds Try.pinned (OpenSpec.ofChange rabinGcdsSpec)

/-- ITS FALSE NEIGHBOUR: 'it returns false'. Refute it at one input. -/
def rabinGcdsWrong : ChangeSpec := { name := "rabinGcds", fn := fun _ => fun
  | [d1, d2] => { results := [.lit (.bool false)], args := [d1, d2] }
  | _ => none }
def RabinGcdsWrongFalsely : Prop := rabinGcdsRow.holds Try.pinned (OpenSpec.ofChange rabinGcdsWrong)

/-- 'flumelaw05.RabinPrimes': WHATEVER THE INPUT: true; the input reads as it did. -/
def rabinPrimesSpec : ChangeSpec := { name := "rabinPrimes", fn := fun _ => fun
  | [d] => { results := [.lit (.bool true)], args := [d] }
  | _ => none }
def rabinPrimesRow : OpenClaim := { program := "ytjogiobhgmbboaa", sum := "edb466ba265336f58e7af19e15c8d5b77a4f6ef6fe735ac158fea0894493fb14", func := "flume/flumelaw05.RabinPrimes", spec := "rabinPrimes", inPlace := ["sync/atomic.LoadUint32", "(*internal/sync.Mutex).Lock", "internal/race.Disable", "sync/atomic.CompareAndSwapInt32", "internal/race.Enable", "internal/race.Acquire", "(*internal/sync.Mutex).lockSlow", "internal/sync.runtime_canSpin", "internal/sync.runtime_doSpin", "internal/sync.throw", "internal/sync.runtime_nanotime", "internal/sync.runtime_SemacquireMutex", "sync/atomic.AddInt32", "(*internal/sync.Mutex).Unlock", "internal/race.ReleaseMerge", "(*internal/sync.Mutex).unlockSlow", "internal/sync.fatal", "internal/sync.runtime_Semrelease", "sync/atomic.StoreUint32"], unfollowed := true, recurses := true, apart := false }
def RabinPrimesSaid : Prop := rabinPrimesRow.holds Try.pinned (OpenSpec.ofChange rabinPrimesSpec)

/-- ITS FALSE NEIGHBOUR: 'it returns false'. Refute it at one input. -/
def rabinPrimesWrong : ChangeSpec := { name := "rabinPrimes", fn := fun _ => fun
  | [d] => { results := [.lit (.bool false)], args := [d] }
  | _ => none }
def RabinPrimesWrongFalsely : Prop := rabinPrimesRow.holds Try.pinned (OpenSpec.ofChange rabinPrimesWrong)

/-- 'flumelaw05.RabinPrints': WHATEVER THE INPUT: true; the input reads as it did. -/
def rabinPrintsSpec : ChangeSpec := { name := "rabinPrints", fn := fun _ => fun
  | [d1, d2] => { results := [.lit (.bool true)], args := [d1, d2] }
  | _ => none }
def rabinPrintsRow : OpenClaim := { program := "ytjogiobhgmbboaa", sum := "edb466ba265336f58e7af19e15c8d5b77a4f6ef6fe735ac158fea0894493fb14", func := "flume/flumelaw05.RabinPrints", spec := "rabinPrints", inPlace := ["sync/atomic.LoadUint32", "(*internal/sync.Mutex).Lock", "internal/race.Disable", "sync/atomic.CompareAndSwapInt32", "internal/race.Enable", "internal/race.Acquire", "(*internal/sync.Mutex).lockSlow", "internal/sync.runtime_canSpin", "internal/sync.runtime_doSpin", "internal/sync.throw", "internal/sync.runtime_nanotime", "internal/sync.runtime_SemacquireMutex", "sync/atomic.AddInt32", "(*internal/sync.Mutex).Unlock", "internal/race.ReleaseMerge", "(*internal/sync.Mutex).unlockSlow", "internal/sync.fatal", "internal/sync.runtime_Semrelease", "sync/atomic.StoreUint32"], unfollowed := true, recurses := true, apart := false }
def RabinPrintsSaid : Prop := rabinPrintsRow.holds Try.pinned (OpenSpec.ofChange rabinPrintsSpec)

/-- ITS FALSE NEIGHBOUR: 'it returns false'. Refute it at one input. -/
def rabinPrintsWrong : ChangeSpec := { name := "rabinPrints", fn := fun _ => fun
  | [d1, d2] => { results := [.lit (.bool false)], args := [d1, d2] }
  | _ => none }
def RabinPrintsWrongFalsely : Prop := rabinPrintsRow.holds Try.pinned (OpenSpec.ofChange rabinPrintsWrong)

/-- 'flumelaw05.RabinRolls': WHATEVER THE INPUT: true; the input reads as it did. -/
def rabinRollsSpec : ChangeSpec := { name := "rabinRolls", fn := fun _ => fun
  | [d1, d2] => { results := [.lit (.bool true)], args := [d1, d2] }
  | _ => none }
def rabinRollsRow : OpenClaim := { program := "ytjogiobhgmbboaa", sum := "edb466ba265336f58e7af19e15c8d5b77a4f6ef6fe735ac158fea0894493fb14", func := "flume/flumelaw05.RabinRolls", spec := "rabinRolls", inPlace := ["sync/atomic.LoadUint32", "(*internal/sync.Mutex).Lock", "internal/race.Disable", "sync/atomic.CompareAndSwapInt32", "internal/race.Enable", "internal/race.Acquire", "(*internal/sync.Mutex).lockSlow", "internal/sync.runtime_canSpin", "internal/sync.runtime_doSpin", "internal/sync.throw", "internal/sync.runtime_nanotime", "internal/sync.runtime_SemacquireMutex", "sync/atomic.AddInt32", "(*internal/sync.Mutex).Unlock", "internal/race.ReleaseMerge", "(*internal/sync.Mutex).unlockSlow", "internal/sync.fatal", "internal/sync.runtime_Semrelease", "sync/atomic.StoreUint32"], unfollowed := true, recurses := true, apart := false }
def RabinRollsSaid : Prop := rabinRollsRow.holds Try.pinned (OpenSpec.ofChange rabinRollsSpec)

/-- ITS FALSE NEIGHBOUR: 'it returns false'. Refute it at one input. -/
def rabinRollsWrong : ChangeSpec := { name := "rabinRolls", fn := fun _ => fun
  | [d1, d2] => { results := [.lit (.bool false)], args := [d1, d2] }
  | _ => none }
def RabinRollsWrongFalsely : Prop := rabinRollsRow.holds Try.pinned (OpenSpec.ofChange rabinRollsWrong)

/-- 'flumelaw05.RabinLeft': WHATEVER THE INPUT: true; the input reads as it did. -/
def rabinLeftSpec : ChangeSpec := { name := "rabinLeft", fn := fun _ => fun
  | [d1, d2, d3] => { results := [.lit (.bool true)], args := [d1, d2, d3] }
  | _ => none }
def rabinLeftRow : OpenClaim := { program := "ytjogiobhgmbboaa", sum := "edb466ba265336f58e7af19e15c8d5b77a4f6ef6fe735ac158fea0894493fb14", func := "flume/flumelaw05.RabinLeft", spec := "rabinLeft", inPlace := ["sync/atomic.LoadUint32", "(*internal/sync.Mutex).Lock", "internal/race.Disable", "sync/atomic.CompareAndSwapInt32", "internal/race.Enable", "internal/race.Acquire", "(*internal/sync.Mutex).lockSlow", "internal/sync.runtime_canSpin", "internal/sync.runtime_doSpin", "internal/sync.throw", "internal/sync.runtime_nanotime", "internal/sync.runtime_SemacquireMutex", "sync/atomic.AddInt32", "(*internal/sync.Mutex).Unlock", "internal/race.ReleaseMerge", "(*internal/sync.Mutex).unlockSlow", "internal/sync.fatal", "internal/sync.runtime_Semrelease", "sync/atomic.StoreUint32"], unfollowed := true, recurses := true, apart := false }
def RabinLeftSaid : Prop := rabinLeftRow.holds Try.pinned (OpenSpec.ofChange rabinLeftSpec)

/-- ITS FALSE NEIGHBOUR: 'it returns false'. Refute it at one input. -/
def rabinLeftWrong : ChangeSpec := { name := "rabinLeft", fn := fun _ => fun
  | [d1, d2, d3] => { results := [.lit (.bool false)], args := [d1, d2, d3] }
  | _ => none }
def RabinLeftWrongFalsely : Prop := rabinLeftRow.holds Try.pinned (OpenSpec.ofChange rabinLeftWrong)

/-- 'flumelaw05.RabinProducts': WHATEVER THE INPUT: true; the input reads as it did. -/
def rabinProductsSpec : ChangeSpec := { name := "rabinProducts", fn := fun _ => fun
  | [d1, d2, d3, d4] => { results := [.lit (.bool true)], args := [d1, d2, d3, d4] }
  | _ => none }
def rabinProductsRow : OpenClaim := { program := "ytjogiobhgmbboaa", sum := "edb466ba265336f58e7af19e15c8d5b77a4f6ef6fe735ac158fea0894493fb14", func := "flume/flumelaw05.RabinProducts", spec := "rabinProducts", inPlace := ["sync/atomic.LoadUint32", "(*internal/sync.Mutex).Lock", "internal/race.Disable", "sync/atomic.CompareAndSwapInt32", "internal/race.Enable", "internal/race.Acquire", "(*internal/sync.Mutex).lockSlow", "internal/sync.runtime_canSpin", "internal/sync.runtime_doSpin", "internal/sync.throw", "internal/sync.runtime_nanotime", "internal/sync.runtime_SemacquireMutex", "sync/atomic.AddInt32", "(*internal/sync.Mutex).Unlock", "internal/race.ReleaseMerge", "(*internal/sync.Mutex).unlockSlow", "internal/sync.fatal", "internal/sync.runtime_Semrelease", "sync/atomic.StoreUint32"], unfollowed := true, recurses := true, apart := false }
def RabinProductsSaid : Prop := rabinProductsRow.holds Try.pinned (OpenSpec.ofChange rabinProductsSpec)

/-- ITS FALSE NEIGHBOUR: 'it returns false'. Refute it at one input. -/
def rabinProductsWrong : ChangeSpec := { name := "rabinProducts", fn := fun _ => fun
  | [d1, d2, d3, d4] => { results := [.lit (.bool false)], args := [d1, d2, d3, d4] }
  | _ => none }
def RabinProductsWrongFalsely : Prop := rabinProductsRow.holds Try.pinned (OpenSpec.ofChange rabinProductsWrong)

/-- 'flumelaw05.RabinShares': WHATEVER THE INPUT: true; the input reads as it did. -/
def rabinSharesSpec : ChangeSpec := { name := "rabinShares", fn := fun _ => fun
  | [d1, d2] => { results := [.lit (.bool true)], args := [d1, d2] }
  | _ => none }
def rabinSharesRow : OpenClaim := { program := "ytjogiobhgmbboaa", sum := "edb466ba265336f58e7af19e15c8d5b77a4f6ef6fe735ac158fea0894493fb14", func := "flume/flumelaw05.RabinShares", spec := "rabinShares", inPlace := ["sync/atomic.LoadUint32", "(*internal/sync.Mutex).Lock", "internal/race.Disable", "sync/atomic.CompareAndSwapInt32", "internal/race.Enable", "internal/race.Acquire", "(*internal/sync.Mutex).lockSlow", "internal/sync.runtime_canSpin", "internal/sync.runtime_doSpin", "internal/sync.throw", "internal/sync.runtime_nanotime", "internal/sync.runtime_SemacquireMutex", "sync/atomic.AddInt32", "(*internal/sync.Mutex).Unlock", "internal/race.ReleaseMerge", "(*internal/sync.Mutex).unlockSlow", "internal/sync.fatal", "internal/sync.runtime_Semrelease", "sync/atomic.StoreUint32"], unfollowed := true, recurses := true, apart := false }
def RabinSharesSaid : Prop := rabinSharesRow.holds Try.pinned (OpenSpec.ofChange rabinSharesSpec)

/-- ITS FALSE NEIGHBOUR: 'it returns false'. Refute it at one input. -/
def rabinSharesWrong : ChangeSpec := { name := "rabinShares", fn := fun _ => fun
  | [d1, d2] => { results := [.lit (.bool false)], args := [d1, d2] }
  | _ => none }
def RabinSharesWrongFalsely : Prop := rabinSharesRow.holds Try.pinned (OpenSpec.ofChange rabinSharesWrong)

/-- 'flumelaw05.RabinWhole': WHATEVER THE INPUT: true; the input reads as it did. -/
def rabinWholeSpec : ChangeSpec := { name := "rabinWhole", fn := fun _ => fun
  | [d1, d2, d3] => { results := [.lit (.bool true)], args := [d1, d2, d3] }
  | _ => none }
def rabinWholeRow : OpenClaim := { program := "ytjogiobhgmbboaa", sum := "edb466ba265336f58e7af19e15c8d5b77a4f6ef6fe735ac158fea0894493fb14", func := "flume/flumelaw05.RabinWhole", spec := "rabinWhole", inPlace := ["sync/atomic.LoadUint32", "(*internal/sync.Mutex).Lock", "internal/race.Disable", "sync/atomic.CompareAndSwapInt32", "internal/race.Enable", "internal/race.Acquire", "(*internal/sync.Mutex).lockSlow", "internal/sync.runtime_canSpin", "internal/sync.runtime_doSpin", "internal/sync.throw", "internal/sync.runtime_nanotime", "internal/sync.runtime_SemacquireMutex", "sync/atomic.AddInt32", "(*internal/sync.Mutex).Unlock", "internal/race.ReleaseMerge", "(*internal/sync.Mutex).unlockSlow", "internal/sync.fatal", "internal/sync.runtime_Semrelease", "sync/atomic.StoreUint32"], unfollowed := true, recurses := true, apart := false }
def RabinWholeSaid : Prop := rabinWholeRow.holds Try.pinned (OpenSpec.ofChange rabinWholeSpec)

/-- ITS FALSE NEIGHBOUR: 'it returns false'. Refute it at one input. -/
def rabinWholeWrong : ChangeSpec := { name := "rabinWhole", fn := fun _ => fun
  | [d1, d2, d3] => { results := [.lit (.bool false)], args := [d1, d2, d3] }
  | _ => none }
def RabinWholeWrongFalsely : Prop := rabinWholeRow.holds Try.pinned (OpenSpec.ofChange rabinWholeWrong)

/-- 'flumelaw05.RabinAlone': WHATEVER THE INPUT: true; the input reads as it did. -/
def rabinAloneSpec : ChangeSpec := { name := "rabinAlone", fn := fun _ => fun
  | [d1, d2, d3, d4] => { results := [.lit (.bool true)], args := [d1, d2, d3, d4] }
  | _ => none }
def rabinAloneRow : OpenClaim := { program := "ytjogiobhgmbboaa", sum := "edb466ba265336f58e7af19e15c8d5b77a4f6ef6fe735ac158fea0894493fb14", func := "flume/flumelaw05.RabinAlone", spec := "rabinAlone", inPlace := ["sync/atomic.LoadUint32", "(*internal/sync.Mutex).Lock", "internal/race.Disable", "sync/atomic.CompareAndSwapInt32", "internal/race.Enable", "internal/race.Acquire", "(*internal/sync.Mutex).lockSlow", "internal/sync.runtime_canSpin", "internal/sync.runtime_doSpin", "internal/sync.throw", "internal/sync.runtime_nanotime", "internal/sync.runtime_SemacquireMutex", "sync/atomic.AddInt32", "(*internal/sync.Mutex).Unlock", "internal/race.ReleaseMerge", "(*internal/sync.Mutex).unlockSlow", "internal/sync.fatal", "internal/sync.runtime_Semrelease", "sync/atomic.StoreUint32"], unfollowed := true, recurses := true, apart := false }
def RabinAloneSaid : Prop := rabinAloneRow.holds Try.pinned (OpenSpec.ofChange rabinAloneSpec)

/-- ITS FALSE NEIGHBOUR: 'it returns false'. Refute it at one input. -/
def rabinAloneWrong : ChangeSpec := { name := "rabinAlone", fn := fun _ => fun
  | [d1, d2, d3, d4] => { results := [.lit (.bool false)], args := [d1, d2, d3, d4] }
  | _ => none }
def RabinAloneWrongFalsely : Prop := rabinAloneRow.holds Try.pinned (OpenSpec.ofChange rabinAloneWrong)

/-- 'flumelaw05.RabinNobody': WHATEVER THE INPUT: true; the input reads as it did. -/
def rabinNobodySpec : ChangeSpec := { name := "rabinNobody", fn := fun _ => fun
  | [d1, d2] => { results := [.lit (.bool true)], args := [d1, d2] }
  | _ => none }
def rabinNobodyRow : OpenClaim := { program := "ytjogiobhgmbboaa", sum := "edb466ba265336f58e7af19e15c8d5b77a4f6ef6fe735ac158fea0894493fb14", func := "flume/flumelaw05.RabinNobody", spec := "rabinNobody", inPlace := ["sync/atomic.LoadUint32", "(*internal/sync.Mutex).Lock", "internal/race.Disable", "sync/atomic.CompareAndSwapInt32", "internal/race.Enable", "internal/race.Acquire", "(*internal/sync.Mutex).lockSlow", "internal/sync.runtime_canSpin", "internal/sync.runtime_doSpin", "internal/sync.throw", "internal/sync.runtime_nanotime", "internal/sync.runtime_SemacquireMutex", "sync/atomic.AddInt32", "(*internal/sync.Mutex).Unlock", "internal/race.ReleaseMerge", "(*internal/sync.Mutex).unlockSlow", "internal/sync.fatal", "internal/sync.runtime_Semrelease", "sync/atomic.StoreUint32"], unfollowed := true, recurses := true, apart := false }
def RabinNobodySaid : Prop := rabinNobodyRow.holds Try.pinned (OpenSpec.ofChange rabinNobodySpec)

/-- ITS FALSE NEIGHBOUR: 'it returns false'. Refute it at one input. -/
def rabinNobodyWrong : ChangeSpec := { name := "rabinNobody", fn := fun _ => fun
  | [d1, d2] => { results := [.lit (.bool false)], args := [d1, d2] }
  | _ => none }
def RabinNobodyWrongFalsely : Prop := rabinNobodyRow.holds Try.pinned (OpenSpec.ofChange rabinNobodyWrong)

/- THE SECOND FORM. 'bulk': how many values and letters a reading holds, each counted each time it is reached (what is shared counts as often as it is met; a slice's spare places count too). A statement '..UptoSaid' is the law's where the arguments, and the package variables that the reading takes, are together of bulk at most 1048576: NARROWER than '..Said'. Prove '..Said' where nothing that the law and all that it calls make is longer than what came in: it says more and counts as full. Else prove '..UptoSaid'. A law counts once. -/
mutual
def uptoBulk {H : Type} : DataW H → Nat
  | .lit (.string bytes) => bytes.length + 1
  | .lit _ => 1
  | .nil => 1
  | .ptr d => uptoBulk d + 1
  | .slice elems spare => uptoBulkAll elems + uptoBulkAll spare + 1
  | .agg parts => uptoBulkAll parts + 1
  | .iface _ d => uptoBulk d + 1
  | .map entries => uptoBulkEntries entries + 1
  | .held _ => 1
def uptoBulkAll {H : Type} : List (DataW H) → Nat
  | [] => 0
  | d :: r => uptoBulk d + uptoBulkAll r
def uptoBulkEntries {H : Type} : List (Lit × DataW H) → Nat
  | [] => 0
  | x :: r => uptoBulkEntry x + uptoBulkEntries r
def uptoBulkEntry {H : Type} : Lit × DataW H → Nat
  | (.string bytes, d) => bytes.length + uptoBulk d + 1
  | (_, d) => uptoBulk d + 1
 end
def uptoSmall : (H : Type) → List (DataW H) → Bool := fun _ ds => decide (uptoBulkAll ds ≤ 1048576)
def OpenSpec.upto (s : _root_.Go.ChangeSpec) : _root_.Go.OpenSpec := { _root_.Go.OpenSpec.ofChange s with cond := some uptoSmall }

/-- 'flumelaw05.RabinMods', WHERE WHAT IT READS IS OF BULK AT MOST 1048576: true; the input reads as it did. -/
def rabinModsUptoRow : OpenClaim := { program := "ytjogiobhgmbboaa", sum := "edb466ba265336f58e7af19e15c8d5b77a4f6ef6fe735ac158fea0894493fb14", func := "flume/flumelaw05.RabinMods", spec := "rabinMods", inPlace := ["sync/atomic.LoadUint32", "(*internal/sync.Mutex).Lock", "internal/race.Disable", "sync/atomic.CompareAndSwapInt32", "internal/race.Enable", "internal/race.Acquire", "(*internal/sync.Mutex).lockSlow", "internal/sync.runtime_canSpin", "internal/sync.runtime_doSpin", "internal/sync.throw", "internal/sync.runtime_nanotime", "internal/sync.runtime_SemacquireMutex", "sync/atomic.AddInt32", "(*internal/sync.Mutex).Unlock", "internal/race.ReleaseMerge", "(*internal/sync.Mutex).unlockSlow", "internal/sync.fatal", "internal/sync.runtime_Semrelease", "sync/atomic.StoreUint32"], unfollowed := true, recurses := true, apart := false, narrowed := true }
def RabinModsUptoSaid : Prop := rabinModsUptoRow.holds Try.pinned (OpenSpec.upto rabinModsSpec)

/-- 'flumelaw05.RabinMuls', WHERE WHAT IT READS IS OF BULK AT MOST 1048576: true; the input reads as it did. -/
def rabinMulsUptoRow : OpenClaim := { program := "ytjogiobhgmbboaa", sum := "edb466ba265336f58e7af19e15c8d5b77a4f6ef6fe735ac158fea0894493fb14", func := "flume/flumelaw05.RabinMuls", spec := "rabinMuls", inPlace := ["sync/atomic.LoadUint32", "(*internal/sync.Mutex).Lock", "internal/race.Disable", "sync/atomic.CompareAndSwapInt32", "internal/race.Enable", "internal/race.Acquire", "(*internal/sync.Mutex).lockSlow", "internal/sync.runtime_canSpin", "internal/sync.runtime_doSpin", "internal/sync.throw", "internal/sync.runtime_nanotime", "internal/sync.runtime_SemacquireMutex", "sync/atomic.AddInt32", "(*internal/sync.Mutex).Unlock", "internal/race.ReleaseMerge", "(*internal/sync.Mutex).unlockSlow", "internal/sync.fatal", "internal/sync.runtime_Semrelease", "sync/atomic.StoreUint32"], unfollowed := true, recurses := true, apart := false, narrowed := true }
def RabinMulsUptoSaid : Prop := rabinMulsUptoRow.holds Try.pinned (OpenSpec.upto rabinMulsSpec)

/-- 'flumelaw05.RabinGcds', WHERE WHAT IT READS IS OF BULK AT MOST 1048576: true; the input reads as it did. -/
def rabinGcdsUptoRow : OpenClaim := { program := "ytjogiobhgmbboaa", sum := "edb466ba265336f58e7af19e15c8d5b77a4f6ef6fe735ac158fea0894493fb14", func := "flume/flumelaw05.RabinGcds", spec := "rabinGcds", inPlace := ["sync/atomic.LoadUint32", "(*internal/sync.Mutex).Lock", "internal/race.Disable", "sync/atomic.CompareAndSwapInt32", "internal/race.Enable", "internal/race.Acquire", "(*internal/sync.Mutex).lockSlow", "internal/sync.runtime_canSpin", "internal/sync.runtime_doSpin", "internal/sync.throw", "internal/sync.runtime_nanotime", "internal/sync.runtime_SemacquireMutex", "sync/atomic.AddInt32", "(*internal/sync.Mutex).Unlock", "internal/race.ReleaseMerge", "(*internal/sync.Mutex).unlockSlow", "internal/sync.fatal", "internal/sync.runtime_Semrelease", "sync/atomic.StoreUint32"], unfollowed := true, recurses := true, apart := false, narrowed := true }
def RabinGcdsUptoSaid : Prop := rabinGcdsUptoRow.holds Try.pinned (OpenSpec.upto rabinGcdsSpec)

/-- 'flumelaw05.RabinPrimes', WHERE WHAT IT READS IS OF BULK AT MOST 1048576: true; the input reads as it did. -/
def rabinPrimesUptoRow : OpenClaim := { program := "ytjogiobhgmbboaa", sum := "edb466ba265336f58e7af19e15c8d5b77a4f6ef6fe735ac158fea0894493fb14", func := "flume/flumelaw05.RabinPrimes", spec := "rabinPrimes", inPlace := ["sync/atomic.LoadUint32", "(*internal/sync.Mutex).Lock", "internal/race.Disable", "sync/atomic.CompareAndSwapInt32", "internal/race.Enable", "internal/race.Acquire", "(*internal/sync.Mutex).lockSlow", "internal/sync.runtime_canSpin", "internal/sync.runtime_doSpin", "internal/sync.throw", "internal/sync.runtime_nanotime", "internal/sync.runtime_SemacquireMutex", "sync/atomic.AddInt32", "(*internal/sync.Mutex).Unlock", "internal/race.ReleaseMerge", "(*internal/sync.Mutex).unlockSlow", "internal/sync.fatal", "internal/sync.runtime_Semrelease", "sync/atomic.StoreUint32"], unfollowed := true, recurses := true, apart := false, narrowed := true }
def RabinPrimesUptoSaid : Prop := rabinPrimesUptoRow.holds Try.pinned (OpenSpec.upto rabinPrimesSpec)

/-- 'flumelaw05.RabinPrints', WHERE WHAT IT READS IS OF BULK AT MOST 1048576: true; the input reads as it did. -/
def rabinPrintsUptoRow : OpenClaim := { program := "ytjogiobhgmbboaa", sum := "edb466ba265336f58e7af19e15c8d5b77a4f6ef6fe735ac158fea0894493fb14", func := "flume/flumelaw05.RabinPrints", spec := "rabinPrints", inPlace := ["sync/atomic.LoadUint32", "(*internal/sync.Mutex).Lock", "internal/race.Disable", "sync/atomic.CompareAndSwapInt32", "internal/race.Enable", "internal/race.Acquire", "(*internal/sync.Mutex).lockSlow", "internal/sync.runtime_canSpin", "internal/sync.runtime_doSpin", "internal/sync.throw", "internal/sync.runtime_nanotime", "internal/sync.runtime_SemacquireMutex", "sync/atomic.AddInt32", "(*internal/sync.Mutex).Unlock", "internal/race.ReleaseMerge", "(*internal/sync.Mutex).unlockSlow", "internal/sync.fatal", "internal/sync.runtime_Semrelease", "sync/atomic.StoreUint32"], unfollowed := true, recurses := true, apart := false, narrowed := true }
def RabinPrintsUptoSaid : Prop := rabinPrintsUptoRow.holds Try.pinned (OpenSpec.upto rabinPrintsSpec)

/-- 'flumelaw05.RabinRolls', WHERE WHAT IT READS IS OF BULK AT MOST 1048576: true; the input reads as it did. -/
def rabinRollsUptoRow : OpenClaim := { program := "ytjogiobhgmbboaa", sum := "edb466ba265336f58e7af19e15c8d5b77a4f6ef6fe735ac158fea0894493fb14", func := "flume/flumelaw05.RabinRolls", spec := "rabinRolls", inPlace := ["sync/atomic.LoadUint32", "(*internal/sync.Mutex).Lock", "internal/race.Disable", "sync/atomic.CompareAndSwapInt32", "internal/race.Enable", "internal/race.Acquire", "(*internal/sync.Mutex).lockSlow", "internal/sync.runtime_canSpin", "internal/sync.runtime_doSpin", "internal/sync.throw", "internal/sync.runtime_nanotime", "internal/sync.runtime_SemacquireMutex", "sync/atomic.AddInt32", "(*internal/sync.Mutex).Unlock", "internal/race.ReleaseMerge", "(*internal/sync.Mutex).unlockSlow", "internal/sync.fatal", "internal/sync.runtime_Semrelease", "sync/atomic.StoreUint32"], unfollowed := true, recurses := true, apart := false, narrowed := true }
def RabinRollsUptoSaid : Prop := rabinRollsUptoRow.holds Try.pinned (OpenSpec.upto rabinRollsSpec)

/-- 'flumelaw05.RabinLeft', WHERE WHAT IT READS IS OF BULK AT MOST 1048576: true; the input reads as it did. -/
def rabinLeftUptoRow : OpenClaim := { program := "ytjogiobhgmbboaa", sum := "edb466ba265336f58e7af19e15c8d5b77a4f6ef6fe735ac158fea0894493fb14", func := "flume/flumelaw05.RabinLeft", spec := "rabinLeft", inPlace := ["sync/atomic.LoadUint32", "(*internal/sync.Mutex).Lock", "internal/race.Disable", "sync/atomic.CompareAndSwapInt32", "internal/race.Enable", "internal/race.Acquire", "(*internal/sync.Mutex).lockSlow", "internal/sync.runtime_canSpin", "internal/sync.runtime_doSpin", "internal/sync.throw", "internal/sync.runtime_nanotime", "internal/sync.runtime_SemacquireMutex", "sync/atomic.AddInt32", "(*internal/sync.Mutex).Unlock", "internal/race.ReleaseMerge", "(*internal/sync.Mutex).unlockSlow", "internal/sync.fatal", "internal/sync.runtime_Semrelease", "sync/atomic.StoreUint32"], unfollowed := true, recurses := true, apart := false, narrowed := true }
def RabinLeftUptoSaid : Prop := rabinLeftUptoRow.holds Try.pinned (OpenSpec.upto rabinLeftSpec)

/-- 'flumelaw05.RabinProducts', WHERE WHAT IT READS IS OF BULK AT MOST 1048576: true; the input reads as it did. -/
def rabinProductsUptoRow : OpenClaim := { program := "ytjogiobhgmbboaa", sum := "edb466ba265336f58e7af19e15c8d5b77a4f6ef6fe735ac158fea0894493fb14", func := "flume/flumelaw05.RabinProducts", spec := "rabinProducts", inPlace := ["sync/atomic.LoadUint32", "(*internal/sync.Mutex).Lock", "internal/race.Disable", "sync/atomic.CompareAndSwapInt32", "internal/race.Enable", "internal/race.Acquire", "(*internal/sync.Mutex).lockSlow", "internal/sync.runtime_canSpin", "internal/sync.runtime_doSpin", "internal/sync.throw", "internal/sync.runtime_nanotime", "internal/sync.runtime_SemacquireMutex", "sync/atomic.AddInt32", "(*internal/sync.Mutex).Unlock", "internal/race.ReleaseMerge", "(*internal/sync.Mutex).unlockSlow", "internal/sync.fatal", "internal/sync.runtime_Semrelease", "sync/atomic.StoreUint32"], unfollowed := true, recurses := true, apart := false, narrowed := true }
def RabinProductsUptoSaid : Prop := rabinProductsUptoRow.holds Try.pinned (OpenSpec.upto rabinProductsSpec)

/-- 'flumelaw05.RabinShares', WHERE WHAT IT READS IS OF BULK AT MOST 1048576: true; the input reads as it did. -/
def rabinSharesUptoRow : OpenClaim := { program := "ytjogiobhgmbboaa", sum := "edb466ba265336f58e7af19e15c8d5b77a4f6ef6fe735ac158fea0894493fb14", func := "flume/flumelaw05.RabinShares", spec := "rabinShares", inPlace := ["sync/atomic.LoadUint32", "(*internal/sync.Mutex).Lock", "internal/race.Disable", "sync/atomic.CompareAndSwapInt32", "internal/race.Enable", "internal/race.Acquire", "(*internal/sync.Mutex).lockSlow", "internal/sync.runtime_canSpin", "internal/sync.runtime_doSpin", "internal/sync.throw", "internal/sync.runtime_nanotime", "internal/sync.runtime_SemacquireMutex", "sync/atomic.AddInt32", "(*internal/sync.Mutex).Unlock", "internal/race.ReleaseMerge", "(*internal/sync.Mutex).unlockSlow", "internal/sync.fatal", "internal/sync.runtime_Semrelease", "sync/atomic.StoreUint32"], unfollowed := true, recurses := true, apart := false, narrowed := true }
def RabinSharesUptoSaid : Prop := rabinSharesUptoRow.holds Try.pinned (OpenSpec.upto rabinSharesSpec)

/-- 'flumelaw05.RabinWhole', WHERE WHAT IT READS IS OF BULK AT MOST 1048576: true; the input reads as it did. -/
def rabinWholeUptoRow : OpenClaim := { program := "ytjogiobhgmbboaa", sum := "edb466ba265336f58e7af19e15c8d5b77a4f6ef6fe735ac158fea0894493fb14", func := "flume/flumelaw05.RabinWhole", spec := "rabinWhole", inPlace := ["sync/atomic.LoadUint32", "(*internal/sync.Mutex).Lock", "internal/race.Disable", "sync/atomic.CompareAndSwapInt32", "internal/race.Enable", "internal/race.Acquire", "(*internal/sync.Mutex).lockSlow", "internal/sync.runtime_canSpin", "internal/sync.runtime_doSpin", "internal/sync.throw", "internal/sync.runtime_nanotime", "internal/sync.runtime_SemacquireMutex", "sync/atomic.AddInt32", "(*internal/sync.Mutex).Unlock", "internal/race.ReleaseMerge", "(*internal/sync.Mutex).unlockSlow", "internal/sync.fatal", "internal/sync.runtime_Semrelease", "sync/atomic.StoreUint32"], unfollowed := true, recurses := true, apart := false, narrowed := true }
def RabinWholeUptoSaid : Prop := rabinWholeUptoRow.holds Try.pinned (OpenSpec.upto rabinWholeSpec)

/-- 'flumelaw05.RabinAlone', WHERE WHAT IT READS IS OF BULK AT MOST 1048576: true; the input reads as it did. -/
def rabinAloneUptoRow : OpenClaim := { program := "ytjogiobhgmbboaa", sum := "edb466ba265336f58e7af19e15c8d5b77a4f6ef6fe735ac158fea0894493fb14", func := "flume/flumelaw05.RabinAlone", spec := "rabinAlone", inPlace := ["sync/atomic.LoadUint32", "(*internal/sync.Mutex).Lock", "internal/race.Disable", "sync/atomic.CompareAndSwapInt32", "internal/race.Enable", "internal/race.Acquire", "(*internal/sync.Mutex).lockSlow", "internal/sync.runtime_canSpin", "internal/sync.runtime_doSpin", "internal/sync.throw", "internal/sync.runtime_nanotime", "internal/sync.runtime_SemacquireMutex", "sync/atomic.AddInt32", "(*internal/sync.Mutex).Unlock", "internal/race.ReleaseMerge", "(*internal/sync.Mutex).unlockSlow", "internal/sync.fatal", "internal/sync.runtime_Semrelease", "sync/atomic.StoreUint32"], unfollowed := true, recurses := true, apart := false, narrowed := true }
def RabinAloneUptoSaid : Prop := rabinAloneUptoRow.holds Try.pinned (OpenSpec.upto rabinAloneSpec)

/-- 'flumelaw05.RabinNobody', WHERE WHAT IT READS IS OF BULK AT MOST 1048576: true; the input reads as it did. -/
def rabinNobodyUptoRow : OpenClaim := { program := "ytjogiobhgmbboaa", sum := "edb466ba265336f58e7af19e15c8d5b77a4f6ef6fe735ac158fea0894493fb14", func := "flume/flumelaw05.RabinNobody", spec := "rabinNobody", inPlace := ["sync/atomic.LoadUint32", "(*internal/sync.Mutex).Lock", "internal/race.Disable", "sync/atomic.CompareAndSwapInt32", "internal/race.Enable", "internal/race.Acquire", "(*internal/sync.Mutex).lockSlow", "internal/sync.runtime_canSpin", "internal/sync.runtime_doSpin", "internal/sync.throw", "internal/sync.runtime_nanotime", "internal/sync.runtime_SemacquireMutex", "sync/atomic.AddInt32", "(*internal/sync.Mutex).Unlock", "internal/race.ReleaseMerge", "(*internal/sync.Mutex).unlockSlow", "internal/sync.fatal", "internal/sync.runtime_Semrelease", "sync/atomic.StoreUint32"], unfollowed := true, recurses := true, apart := false, narrowed := true }
def RabinNobodyUptoSaid : Prop := rabinNobodyUptoRow.holds Try.pinned (OpenSpec.upto rabinNobodySpec)

end Rows
end Go.Proofs.Ytjogiobhgmbboaa
