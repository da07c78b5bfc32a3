/-
  NARROWER THAN 'FOR EVERY INPUT', by the rows' own cells (each row's printed sentence says how): RecordChecks: laid · RecordMakes: laid · RecordOpens: laid · RecordPuts: laid · RecordGets: laid · RecordBack: laid · RecordForm: laid · RecordTrue: laid · RecordKinds: laid.
  DERIVED. THE GIVEN ROWS OF THIS SEAT. 9 by the template 'for every input the law returns true; each argument reads behind the call as it read before'; 0 by the template 'total and deterministic' (their statements: YtbcgnacfhpahkaaDoorTotals.lean).
  GIVEN WITH THE SEED: the statements are not yours to turn. If you find one false, say at which input.
  Laid BY PROGRAM, IN A SANDBOX (cutbox-rows.mjs): the forced cells as the released guide's own fill.sh prints them over the translation 50320940c523d673… (all of the seat's roots in one cut). By AI agents, Wed Nov 11 2026. No macro, syntax, notation, axiom, sorry.
-/
import Derived.Test.YtbcgnacfhpahkaaDoorChecked
import GoSem.Claim
import GoSem.ClaimJoined
import GoSem.ClaimMapViews
import Derived.JoinedTies
import Derived.KernelRfl
namespace Go.Proofs.YtbcgnacfhpahkaaDoor
/- THE CELL 'sum', in the pinned program and in every row, IS THE sha256 OF THE DUMP (.gsa) THAT YtbcgnacfhpahkaaDoorProg.lean LOADS. Nothing in Lean hashes anything: it is a label: what it is worth is what the hold of that sum in a sandbox is worth. -/
noncomputable def Tryd.pinned : Pinned := { name := "ytbcgnacfhpahkaadoor", sum := "50320940c523d67391610b7893e59a78b5911070bc56a5c554dcd7dcef464284", checked := Tryd.checked }
namespace Rows
def none {H : Type} : Left H := { results := [], args := [] }

/- WHAT THE LISTED PACKAGE-LEVEL VARIABLES READ AS WHEN THE CALL BEGINS. Each datum BY PROGRAM (the guide's laid-datum.mjs) off the statement by which the dump's own 'gosem.cut.vars' lays the variable. In a bare row this is a premise. The card (YtbcgnacfhpahkaaDoorCards.lean) ties it to the program's text. -/
def laid_flume_digest_roots {H : Type} : DataW H := .agg [.lit (.int .u32 1779033703), .lit (.int .u32 3144134277), .lit (.int .u32 1013904242), .lit (.int .u32 2773480762), .lit (.int .u32 1359893119), .lit (.int .u32 2600822924), .lit (.int .u32 528734635), .lit (.int .u32 1541459225)]
def laid_flume_digest_cubes {H : Type} : DataW H := .agg [.lit (.int .u32 1116352408), .lit (.int .u32 1899447441), .lit (.int .u32 3049323471), .lit (.int .u32 3921009573), .lit (.int .u32 961987163), .lit (.int .u32 1508970993), .lit (.int .u32 2453635748), .lit (.int .u32 2870763221), .lit (.int .u32 3624381080), .lit (.int .u32 310598401), .lit (.int .u32 607225278), .lit (.int .u32 1426881987), .lit (.int .u32 1925078388), .lit (.int .u32 2162078206), .lit (.int .u32 2614888103), .lit (.int .u32 3248222580), .lit (.int .u32 3835390401), .lit (.int .u32 4022224774), .lit (.int .u32 264347078), .lit (.int .u32 604807628), .lit (.int .u32 770255983), .lit (.int .u32 1249150122), .lit (.int .u32 1555081692), .lit (.int .u32 1996064986), .lit (.int .u32 2554220882), .lit (.int .u32 2821834349), .lit (.int .u32 2952996808), .lit (.int .u32 3210313671), .lit (.int .u32 3336571891), .lit (.int .u32 3584528711), .lit (.int .u32 113926993), .lit (.int .u32 338241895), .lit (.int .u32 666307205), .lit (.int .u32 773529912), .lit (.int .u32 1294757372), .lit (.int .u32 1396182291), .lit (.int .u32 1695183700), .lit (.int .u32 1986661051), .lit (.int .u32 2177026350), .lit (.int .u32 2456956037), .lit (.int .u32 2730485921), .lit (.int .u32 2820302411), .lit (.int .u32 3259730800), .lit (.int .u32 3345764771), .lit (.int .u32 3516065817), .lit (.int .u32 3600352804), .lit (.int .u32 4094571909), .lit (.int .u32 275423344), .lit (.int .u32 430227734), .lit (.int .u32 506948616), .lit (.int .u32 659060556), .lit (.int .u32 883997877), .lit (.int .u32 958139571), .lit (.int .u32 1322822218), .lit (.int .u32 1537002063), .lit (.int .u32 1747873779), .lit (.int .u32 1955562222), .lit (.int .u32 2024104815), .lit (.int .u32 2227730452), .lit (.int .u32 2361852424), .lit (.int .u32 2428436474), .lit (.int .u32 2756734187), .lit (.int .u32 3204031479), .lit (.int .u32 3329325298)]

/-- 'flumelaw10.RecordChecks': WHATEVER THE INPUT: true; the input reads as it did. -/
def recordChecksSpec : ChangeSpec := { name := "recordChecks", fn := fun _ => fun
  | [d1, d2] => { results := [.lit (.bool true)], args := [d1, d2] }
  | _ => none }
def recordChecksRow : OpenClaim := { program := "ytbcgnacfhpahkaadoor", sum := "50320940c523d67391610b7893e59a78b5911070bc56a5c554dcd7dcef464284", func := "flume/flumelaw10.RecordChecks", spec := "recordChecks", unfollowed := true, recurses := true, named := ["flume/digest.roots", "flume/digest.cubes"], plainKeys := false, apart := false, laid := [("flume/digest.roots", laid_flume_digest_roots), ("flume/digest.cubes", laid_flume_digest_cubes)] }
def RecordChecksSaid : Prop := recordChecksRow.holds Tryd.pinned (OpenSpec.ofChange recordChecksSpec)

/-- ITS FALSE NEIGHBOUR: 'it returns false'. Refute it at one input. -/
def recordChecksWrong : ChangeSpec := { name := "recordChecks", fn := fun _ => fun
  | [d1, d2] => { results := [.lit (.bool false)], args := [d1, d2] }
  | _ => none }
def RecordChecksWrongFalsely : Prop := recordChecksRow.holds Tryd.pinned (OpenSpec.ofChange recordChecksWrong)

/-- 'flumelaw10.RecordMakes': WHATEVER THE INPUT: true; the input reads as it did. -/
def recordMakesSpec : ChangeSpec := { name := "recordMakes", fn := fun _ => fun
  | [d1, d2] => { results := [.lit (.bool true)], args := [d1, d2] }
  | _ => none }
def recordMakesRow : OpenClaim := { program := "ytbcgnacfhpahkaadoor", sum := "50320940c523d67391610b7893e59a78b5911070bc56a5c554dcd7dcef464284", func := "flume/flumelaw10.RecordMakes", spec := "recordMakes", unfollowed := true, recurses := true, named := ["flume/digest.roots", "flume/digest.cubes"], plainKeys := false, apart := false, laid := [("flume/digest.roots", laid_flume_digest_roots), ("flume/digest.cubes", laid_flume_digest_cubes)] }
def RecordMakesSaid : Prop := recordMakesRow.holds Tryd.pinned (OpenSpec.ofChange recordMakesSpec)

/-- ITS FALSE NEIGHBOUR: 'it returns false'. Refute it at one input. -/
def recordMakesWrong : ChangeSpec := { name := "recordMakes", fn := fun _ => fun
  | [d1, d2] => { results := [.lit (.bool false)], args := [d1, d2] }
  | _ => none }
def RecordMakesWrongFalsely : Prop := recordMakesRow.holds Tryd.pinned (OpenSpec.ofChange recordMakesWrong)

/-- 'flumelaw10.RecordOpens': WHATEVER THE INPUT: true; the input reads as it did. -/
def recordOpensSpec : ChangeSpec := { name := "recordOpens", fn := fun _ => fun
  | [d] => { results := [.lit (.bool true)], args := [d] }
  | _ => none }
def recordOpensRow : OpenClaim := { program := "ytbcgnacfhpahkaadoor", sum := "50320940c523d67391610b7893e59a78b5911070bc56a5c554dcd7dcef464284", func := "flume/flumelaw10.RecordOpens", spec := "recordOpens", unfollowed := true, recurses := true, named := ["flume/digest.roots", "flume/digest.cubes"], plainKeys := false, apart := false, laid := [("flume/digest.roots", laid_flume_digest_roots), ("flume/digest.cubes", laid_flume_digest_cubes)] }
def RecordOpensSaid : Prop := recordOpensRow.holds Tryd.pinned (OpenSpec.ofChange recordOpensSpec)

/-- ITS FALSE NEIGHBOUR: 'it returns false'. Refute it at one input. -/
def recordOpensWrong : ChangeSpec := { name := "recordOpens", fn := fun _ => fun
  | [d] => { results := [.lit (.bool false)], args := [d] }
  | _ => none }
def RecordOpensWrongFalsely : Prop := recordOpensRow.holds Tryd.pinned (OpenSpec.ofChange recordOpensWrong)

/-- 'flumelaw10.RecordPuts': WHATEVER THE INPUT: true; the input reads as it did. -/
def recordPutsSpec : ChangeSpec := { name := "recordPuts", fn := fun _ => fun
  | [d] => { results := [.lit (.bool true)], args := [d] }
  | _ => none }
def recordPutsRow : OpenClaim := { program := "ytbcgnacfhpahkaadoor", sum := "50320940c523d67391610b7893e59a78b5911070bc56a5c554dcd7dcef464284", func := "flume/flumelaw10.RecordPuts", spec := "recordPuts", unfollowed := true, recurses := true, named := ["flume/digest.roots", "flume/digest.cubes"], plainKeys := false, apart := false, laid := [("flume/digest.roots", laid_flume_digest_roots), ("flume/digest.cubes", laid_flume_digest_cubes)] }
def RecordPutsSaid : Prop := recordPutsRow.holds Tryd.pinned (OpenSpec.ofChange recordPutsSpec)

/-- ITS FALSE NEIGHBOUR: 'it returns false'. Refute it at one input. -/
def recordPutsWrong : ChangeSpec := { name := "recordPuts", fn := fun _ => fun
  | [d] => { results := [.lit (.bool false)], args := [d] }
  | _ => none }
def RecordPutsWrongFalsely : Prop := recordPutsRow.holds Tryd.pinned (OpenSpec.ofChange recordPutsWrong)

/-- 'flumelaw10.RecordGets': WHATEVER THE INPUT: true; the input reads as it did. -/
def recordGetsSpec : ChangeSpec := { name := "recordGets", fn := fun _ => fun
  | [d] => { results := [.lit (.bool true)], args := [d] }
  | _ => none }
def recordGetsRow : OpenClaim := { program := "ytbcgnacfhpahkaadoor", sum := "50320940c523d67391610b7893e59a78b5911070bc56a5c554dcd7dcef464284", func := "flume/flumelaw10.RecordGets", spec := "recordGets", unfollowed := true, recurses := true, named := ["flume/digest.roots", "flume/digest.cubes"], plainKeys := false, apart := false, laid := [("flume/digest.roots", laid_flume_digest_roots), ("flume/digest.cubes", laid_flume_digest_cubes)] }
def RecordGetsSaid : Prop := recordGetsRow.holds Tryd.pinned (OpenSpec.ofChange recordGetsSpec)

/-- ITS FALSE NEIGHBOUR: 'it returns false'. Refute it at one input. -/
def recordGetsWrong : ChangeSpec := { name := "recordGets", fn := fun _ => fun
  | [d] => { results := [.lit (.bool false)], args := [d] }
  | _ => none }
def RecordGetsWrongFalsely : Prop := recordGetsRow.holds Tryd.pinned (OpenSpec.ofChange recordGetsWrong)

/-- 'flumelaw10.RecordBack': WHATEVER THE INPUT: true; the input reads as it did. -/
def recordBackSpec : ChangeSpec := { name := "recordBack", fn := fun _ => fun
  | [d] => { results := [.lit (.bool true)], args := [d] }
  | _ => none }
def recordBackRow : OpenClaim := { program := "ytbcgnacfhpahkaadoor", sum := "50320940c523d67391610b7893e59a78b5911070bc56a5c554dcd7dcef464284", func := "flume/flumelaw10.RecordBack", spec := "recordBack", unfollowed := true, recurses := true, named := ["flume/digest.roots", "flume/digest.cubes"], plainKeys := false, apart := false, laid := [("flume/digest.roots", laid_flume_digest_roots), ("flume/digest.cubes", laid_flume_digest_cubes)] }
def RecordBackSaid : Prop := recordBackRow.holds Tryd.pinned (OpenSpec.ofChange recordBackSpec)

/-- ITS FALSE NEIGHBOUR: 'it returns false'. Refute it at one input. -/
def recordBackWrong : ChangeSpec := { name := "recordBack", fn := fun _ => fun
  | [d] => { results := [.lit (.bool false)], args := [d] }
  | _ => none }
def RecordBackWrongFalsely : Prop := recordBackRow.holds Tryd.pinned (OpenSpec.ofChange recordBackWrong)

/-- 'flumelaw10.RecordForm': WHATEVER THE INPUT: true; the input reads as it did. -/
def recordFormSpec : ChangeSpec := { name := "recordForm", fn := fun _ => fun
  | [d1, d2] => { results := [.lit (.bool true)], args := [d1, d2] }
  | _ => none }
def recordFormRow : OpenClaim := { program := "ytbcgnacfhpahkaadoor", sum := "50320940c523d67391610b7893e59a78b5911070bc56a5c554dcd7dcef464284", func := "flume/flumelaw10.RecordForm", spec := "recordForm", unfollowed := true, recurses := true, named := ["flume/digest.roots", "flume/digest.cubes"], plainKeys := false, apart := false, laid := [("flume/digest.roots", laid_flume_digest_roots), ("flume/digest.cubes", laid_flume_digest_cubes)] }
def RecordFormSaid : Prop := recordFormRow.holds Tryd.pinned (OpenSpec.ofChange recordFormSpec)

/-- ITS FALSE NEIGHBOUR: 'it returns false'. Refute it at one input. -/
def recordFormWrong : ChangeSpec := { name := "recordForm", fn := fun _ => fun
  | [d1, d2] => { results := [.lit (.bool false)], args := [d1, d2] }
  | _ => none }
def RecordFormWrongFalsely : Prop := recordFormRow.holds Tryd.pinned (OpenSpec.ofChange recordFormWrong)

/-- 'flumelaw10.RecordTrue': WHATEVER THE INPUT: true; the input reads as it did. -/
def recordTrueSpec : ChangeSpec := { name := "recordTrue", fn := fun _ => fun
  | [d1, d2] => { results := [.lit (.bool true)], args := [d1, d2] }
  | _ => none }
def recordTrueRow : OpenClaim := { program := "ytbcgnacfhpahkaadoor", sum := "50320940c523d67391610b7893e59a78b5911070bc56a5c554dcd7dcef464284", func := "flume/flumelaw10.RecordTrue", spec := "recordTrue", unfollowed := true, recurses := true, named := ["flume/digest.roots", "flume/digest.cubes"], plainKeys := false, apart := false, laid := [("flume/digest.roots", laid_flume_digest_roots), ("flume/digest.cubes", laid_flume_digest_cubes)] }
def RecordTrueSaid : Prop := recordTrueRow.holds Tryd.pinned (OpenSpec.ofChange recordTrueSpec)

/-- ITS FALSE NEIGHBOUR: 'it returns false'. Refute it at one input. -/
def recordTrueWrong : ChangeSpec := { name := "recordTrue", fn := fun _ => fun
  | [d1, d2] => { results := [.lit (.bool false)], args := [d1, d2] }
  | _ => none }
def RecordTrueWrongFalsely : Prop := recordTrueRow.holds Tryd.pinned (OpenSpec.ofChange recordTrueWrong)

/-- 'flumelaw10.RecordKinds': WHATEVER THE INPUT: true; the input reads as it did. -/
def recordKindsSpec : ChangeSpec := { name := "recordKinds", fn := fun _ => fun
  | [d] => { results := [.lit (.bool true)], args := [d] }
  | _ => none }
def recordKindsRow : OpenClaim := { program := "ytbcgnacfhpahkaadoor", sum := "50320940c523d67391610b7893e59a78b5911070bc56a5c554dcd7dcef464284", func := "flume/flumelaw10.RecordKinds", spec := "recordKinds", unfollowed := true, recurses := true, named := ["flume/digest.roots", "flume/digest.cubes"], plainKeys := false, apart := false, laid := [("flume/digest.roots", laid_flume_digest_roots), ("flume/digest.cubes", laid_flume_digest_cubes)] }
def RecordKindsSaid : Prop := recordKindsRow.holds Tryd.pinned (OpenSpec.ofChange recordKindsSpec)

/-- ITS FALSE NEIGHBOUR: 'it returns false'. Refute it at one input. -/
def recordKindsWrong : ChangeSpec := { name := "recordKinds", fn := fun _ => fun
  | [d] => { results := [.lit (.bool false)], args := [d] }
  | _ => none }
def RecordKindsWrongFalsely : Prop := recordKindsRow.holds Tryd.pinned (OpenSpec.ofChange recordKindsWrong)

/- THE SECOND FORM. 'bulk': how many values and letters a reading holds, each counted each time it is reached (what is shared counts as often as it is met; a slice's spare places count too). A statement '..UptoSaid' is the law's where the arguments, and the package variables that the reading takes, are together of bulk at most 1048576: NARROWER than '..Said'. Prove '..Said' where nothing that the law and all that it calls make is longer than what came in: it says more and counts as full. Else prove '..UptoSaid'. A law counts once. -/
mutual
def uptoBulk {H : Type} : DataW H → Nat
  | .lit (.string bytes) => bytes.length + 1
  | .lit _ => 1
  | .nil => 1
  | .ptr d => uptoBulk d + 1
  | .slice elems spare => uptoBulkAll elems + uptoBulkAll spare + 1
  | .agg parts => uptoBulkAll parts + 1
  | .iface _ d => uptoBulk d + 1
  | .map entries => uptoBulkEntries entries + 1
  | .held _ => 1
def uptoBulkAll {H : Type} : List (DataW H) → Nat
  | [] => 0
  | d :: r => uptoBulk d + uptoBulkAll r
def uptoBulkEntries {H : Type} : List (Lit × DataW H) → Nat
  | [] => 0
  | x :: r => uptoBulkEntry x + uptoBulkEntries r
def uptoBulkEntry {H : Type} : Lit × DataW H → Nat
  | (.string bytes, d) => bytes.length + uptoBulk d + 1
  | (_, d) => uptoBulk d + 1
 end
def uptoSmall : (H : Type) → List (DataW H) → Bool := fun _ ds => decide (uptoBulkAll ds ≤ 1048576)
def OpenSpec.upto (s : _root_.Go.ChangeSpec) : _root_.Go.OpenSpec := { _root_.Go.OpenSpec.ofChange s with cond := some uptoSmall }

/-- 'flumelaw10.RecordChecks', WHERE WHAT IT READS IS OF BULK AT MOST 1048576: true; the input reads as it did. -/
def recordChecksUptoRow : OpenClaim := { program := "ytbcgnacfhpahkaadoor", sum := "50320940c523d67391610b7893e59a78b5911070bc56a5c554dcd7dcef464284", func := "flume/flumelaw10.RecordChecks", spec := "recordChecks", unfollowed := true, recurses := true, named := ["flume/digest.roots", "flume/digest.cubes"], plainKeys := false, apart := false, laid := [("flume/digest.roots", laid_flume_digest_roots), ("flume/digest.cubes", laid_flume_digest_cubes)], narrowed := true }
def RecordChecksUptoSaid : Prop := recordChecksUptoRow.holds Tryd.pinned (OpenSpec.upto recordChecksSpec)

/-- 'flumelaw10.RecordMakes', WHERE WHAT IT READS IS OF BULK AT MOST 1048576: true; the input reads as it did. -/
def recordMakesUptoRow : OpenClaim := { program := "ytbcgnacfhpahkaadoor", sum := "50320940c523d67391610b7893e59a78b5911070bc56a5c554dcd7dcef464284", func := "flume/flumelaw10.RecordMakes", spec := "recordMakes", unfollowed := true, recurses := true, named := ["flume/digest.roots", "flume/digest.cubes"], plainKeys := false, apart := false, laid := [("flume/digest.roots", laid_flume_digest_roots), ("flume/digest.cubes", laid_flume_digest_cubes)], narrowed := true }
def RecordMakesUptoSaid : Prop := recordMakesUptoRow.holds Tryd.pinned (OpenSpec.upto recordMakesSpec)

/-- 'flumelaw10.RecordOpens', WHERE WHAT IT READS IS OF BULK AT MOST 1048576: true; the input reads as it did. -/
def recordOpensUptoRow : OpenClaim := { program := "ytbcgnacfhpahkaadoor", sum := "50320940c523d67391610b7893e59a78b5911070bc56a5c554dcd7dcef464284", func := "flume/flumelaw10.RecordOpens", spec := "recordOpens", unfollowed := true, recurses := true, named := ["flume/digest.roots", "flume/digest.cubes"], plainKeys := false, apart := false, laid := [("flume/digest.roots", laid_flume_digest_roots), ("flume/digest.cubes", laid_flume_digest_cubes)], narrowed := true }
def RecordOpensUptoSaid : Prop := recordOpensUptoRow.holds Tryd.pinned (OpenSpec.upto recordOpensSpec)

/-- 'flumelaw10.RecordPuts', WHERE WHAT IT READS IS OF BULK AT MOST 1048576: true; the input reads as it did. -/
def recordPutsUptoRow : OpenClaim := { program := "ytbcgnacfhpahkaadoor", sum := "50320940c523d67391610b7893e59a78b5911070bc56a5c554dcd7dcef464284", func := "flume/flumelaw10.RecordPuts", spec := "recordPuts", unfollowed := true, recurses := true, named := ["flume/digest.roots", "flume/digest.cubes"], plainKeys := false, apart := false, laid := [("flume/digest.roots", laid_flume_digest_roots), ("flume/digest.cubes", laid_flume_digest_cubes)], narrowed := true }
def RecordPutsUptoSaid : Prop := recordPutsUptoRow.holds Tryd.pinned (OpenSpec.upto recordPutsSpec)

/-- 'flumelaw10.RecordGets', WHERE WHAT IT READS IS OF BULK AT MOST 1048576: true; the input reads as it did. -/
def recordGetsUptoRow : OpenClaim := { program := "ytbcgnacfhpahkaadoor", sum := "50320940c523d67391610b7893e59a78b5911070bc56a5c554dcd7dcef464284", func := "flume/flumelaw10.RecordGets", spec := "recordGets", unfollowed := true, recurses := true, named := ["flume/digest.roots", "flume/digest.cubes"], plainKeys := false, apart := false, laid := [("flume/digest.roots", laid_flume_digest_roots), ("flume/digest.cubes", laid_flume_digest_cubes)], narrowed := true }
def RecordGetsUptoSaid : Prop := recordGetsUptoRow.holds Tryd.pinned (OpenSpec.upto recordGetsSpec)

/-- 'flumelaw10.RecordBack', WHERE WHAT IT READS IS OF BULK AT MOST 1048576: true; the input reads as it did. -/
def recordBackUptoRow : OpenClaim := { program := "ytbcgnacfhpahkaadoor", sum := "50320940c523d67391610b7893e59a78b5911070bc56a5c554dcd7dcef464284", func := "flume/flumelaw10.RecordBack", spec := "recordBack", unfollowed := true, recurses := true, named := ["flume/digest.roots", "flume/digest.cubes"], plainKeys := false, apart := false, laid := [("flume/digest.roots", laid_flume_digest_roots), ("flume/digest.cubes", laid_flume_digest_cubes)], narrowed := true }
def RecordBackUptoSaid : Prop := recordBackUptoRow.holds Tryd.pinned (OpenSpec.upto recordBackSpec)

/-- 'flumelaw10.RecordForm', WHERE WHAT IT READS IS OF BULK AT MOST 1048576: true; the input reads as it did. -/
def recordFormUptoRow : OpenClaim := { program := "ytbcgnacfhpahkaadoor", sum := "50320940c523d67391610b7893e59a78b5911070bc56a5c554dcd7dcef464284", func := "flume/flumelaw10.RecordForm", spec := "recordForm", unfollowed := true, recurses := true, named := ["flume/digest.roots", "flume/digest.cubes"], plainKeys := false, apart := false, laid := [("flume/digest.roots", laid_flume_digest_roots), ("flume/digest.cubes", laid_flume_digest_cubes)], narrowed := true }
def RecordFormUptoSaid : Prop := recordFormUptoRow.holds Tryd.pinned (OpenSpec.upto recordFormSpec)

/-- 'flumelaw10.RecordTrue', WHERE WHAT IT READS IS OF BULK AT MOST 1048576: true; the input reads as it did. -/
def recordTrueUptoRow : OpenClaim := { program := "ytbcgnacfhpahkaadoor", sum := "50320940c523d67391610b7893e59a78b5911070bc56a5c554dcd7dcef464284", func := "flume/flumelaw10.RecordTrue", spec := "recordTrue", unfollowed := true, recurses := true, named := ["flume/digest.roots", "flume/digest.cubes"], plainKeys := false, apart := false, laid := [("flume/digest.roots", laid_flume_digest_roots), ("flume/digest.cubes", laid_flume_digest_cubes)], narrowed := true }
def RecordTrueUptoSaid : Prop := recordTrueUptoRow.holds Tryd.pinned (OpenSpec.upto recordTrueSpec)

/-- 'flumelaw10.RecordKinds', WHERE WHAT IT READS IS OF BULK AT MOST 1048576: true; the input reads as it did. -/
def recordKindsUptoRow : OpenClaim := { program := "ytbcgnacfhpahkaadoor", sum := "50320940c523d67391610b7893e59a78b5911070bc56a5c554dcd7dcef464284", func := "flume/flumelaw10.RecordKinds", spec := "recordKinds", unfollowed := true, recurses := true, named := ["flume/digest.roots", "flume/digest.cubes"], plainKeys := false, apart := false, laid := [("flume/digest.roots", laid_flume_digest_roots), ("flume/digest.cubes", laid_flume_digest_cubes)], narrowed := true }
def RecordKindsUptoSaid : Prop := recordKindsUptoRow.holds Tryd.pinned (OpenSpec.upto recordKindsSpec)

end Rows
end Go.Proofs.YtbcgnacfhpahkaaDoor
