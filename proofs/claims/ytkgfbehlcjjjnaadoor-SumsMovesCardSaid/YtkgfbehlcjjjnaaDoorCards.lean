/-
  DERIVED. GIVEN WITH THE SEED: THE CARDS: each row of YtkgfbehlcjjjnaaDoorRows.lean that lists a variable, with what it lists TIED to the program's text (the seventh form; the later family's looks); each row that meets fmt, with fmt's text TOLD by the authors' own Lean function (tested against real Go, not proved from fmt's source: count such statements apart). THE CARD IS WHAT COUNTS. Prove the row's statement (the work); the ties are given (YtkgfbehlcjjjnaaDoorTie.lean); close each card by the builder's one call (the guide's Derived/Test/ToyasCard.lean, 'card_holds'). Laid BY PROGRAM, IN A SANDBOX (cutbox-door.mjs). By AI agents, Wed Nov 11 2026. No macro, syntax, notation, axiom, sorry.
-/
import Derived.Test.YtkgfbehlcjjjnaaDoorRows
import GoSem.ClaimSeven
namespace Go.Proofs.YtkgfbehlcjjjnaaDoor
namespace Rows

/-- THE TIED CARD OF 'flumelaw01.SumsInets'. -/
def sumsInetsCard : Claim7 := { stood := { row := sumsInetsRow, standIns := [], harness := (true, "cbdc7f74d8af848eb8a8492215325a1378972d0d2750e954abc8aae96ae24863"), looks := false }, kinds := [], alts := [], laidByText := true, laidKinds := [.data], laidTests := true, laidLooks := .later }
def SumsInetsCardSaid : Prop := Claim7.holds Tryd.pinned (.plain (OpenSpec.ofChange sumsInetsSpec)) sumsInetsCard

/-- THE TIED CARD OF 'flumelaw01.SumsUpdates'. -/
def sumsUpdatesCard : Claim7 := { stood := { row := sumsUpdatesRow, standIns := [], harness := (true, "cbdc7f74d8af848eb8a8492215325a1378972d0d2750e954abc8aae96ae24863"), looks := false }, kinds := [], alts := [], laidByText := true, laidKinds := [.data], laidTests := true, laidLooks := .later }
def SumsUpdatesCardSaid : Prop := Claim7.holds Tryd.pinned (.plain (OpenSpec.ofChange sumsUpdatesSpec)) sumsUpdatesCard

/-- THE TIED CARD OF 'flumelaw01.SumsHolds'. -/
def sumsHoldsCard : Claim7 := { stood := { row := sumsHoldsRow, standIns := [], harness := (true, "cbdc7f74d8af848eb8a8492215325a1378972d0d2750e954abc8aae96ae24863"), looks := false }, kinds := [], alts := [], laidByText := true, laidKinds := [.data], laidTests := true, laidLooks := .later }
def SumsHoldsCardSaid : Prop := Claim7.holds Tryd.pinned (.plain (OpenSpec.ofChange sumsHoldsSpec)) sumsHoldsCard

/-- THE TIED CARD OF 'flumelaw01.SumsMoves'. -/
def sumsMovesCard : Claim7 := { stood := { row := sumsMovesRow, standIns := [], harness := (true, "cbdc7f74d8af848eb8a8492215325a1378972d0d2750e954abc8aae96ae24863"), looks := false }, kinds := [], alts := [], laidByText := true, laidKinds := [.data], laidTests := true, laidLooks := .later }
def SumsMovesCardSaid : Prop := Claim7.holds Tryd.pinned (.plain (OpenSpec.ofChange sumsMovesSpec)) sumsMovesCard

/-- THE TIED CARD OF 'flumelaw01.SumsFollows'. -/
def sumsFollowsCard : Claim7 := { stood := { row := sumsFollowsRow, standIns := [], harness := (true, "cbdc7f74d8af848eb8a8492215325a1378972d0d2750e954abc8aae96ae24863"), looks := false }, kinds := [], alts := [], laidByText := true, laidKinds := [.data], laidTests := true, laidLooks := .later }
def SumsFollowsCardSaid : Prop := Claim7.holds Tryd.pinned (.plain (OpenSpec.ofChange sumsFollowsSpec)) sumsFollowsCard

/-- THE TIED CARD OF 'flumelaw01.SumsCrcs'. -/
def sumsCrcsCard : Claim7 := { stood := { row := sumsCrcsRow, standIns := [], harness := (true, "cbdc7f74d8af848eb8a8492215325a1378972d0d2750e954abc8aae96ae24863"), looks := false }, kinds := [], alts := [], laidByText := true, laidKinds := [.data], laidTests := true, laidLooks := .later }
def SumsCrcsCardSaid : Prop := Claim7.holds Tryd.pinned (.plain (OpenSpec.ofChange sumsCrcsSpec)) sumsCrcsCard

/-- THE TIED CARD OF 'flumelaw01.SumsSeals'. -/
def sumsSealsCard : Claim7 := { stood := { row := sumsSealsRow, standIns := [], harness := (true, "cbdc7f74d8af848eb8a8492215325a1378972d0d2750e954abc8aae96ae24863"), looks := false }, kinds := [], alts := [], laidByText := true, laidKinds := [.data], laidTests := true, laidLooks := .later }
def SumsSealsCardSaid : Prop := Claim7.holds Tryd.pinned (.plain (OpenSpec.ofChange sumsSealsSpec)) sumsSealsCard

/-- THE TIED CARD OF 'flumelaw01.SumsBack'. -/
def sumsBackCard : Claim7 := { stood := { row := sumsBackRow, standIns := [], harness := (true, "cbdc7f74d8af848eb8a8492215325a1378972d0d2750e954abc8aae96ae24863"), looks := false }, kinds := [], alts := [], laidByText := true, laidKinds := [.data], laidTests := true, laidLooks := .later }
def SumsBackCardSaid : Prop := Claim7.holds Tryd.pinned (.plain (OpenSpec.ofChange sumsBackSpec)) sumsBackCard

/-- THE TIED CARD OF 'flumelaw01.SumsBurst'. -/
def sumsBurstCard : Claim7 := { stood := { row := sumsBurstRow, standIns := [], harness := (true, "cbdc7f74d8af848eb8a8492215325a1378972d0d2750e954abc8aae96ae24863"), looks := false }, kinds := [], alts := [], laidByText := true, laidKinds := [.data], laidTests := true, laidLooks := .later }
def SumsBurstCardSaid : Prop := Claim7.holds Tryd.pinned (.plain (OpenSpec.ofChange sumsBurstSpec)) sumsBurstCard

/-- THE TIED CARD OF 'flumelaw01.SumsThree'. -/
def sumsThreeCard : Claim7 := { stood := { row := sumsThreeRow, standIns := [], harness := (true, "cbdc7f74d8af848eb8a8492215325a1378972d0d2750e954abc8aae96ae24863"), looks := false }, kinds := [], alts := [], laidByText := true, laidKinds := [.data], laidTests := true, laidLooks := .later }
def SumsThreeCardSaid : Prop := Claim7.holds Tryd.pinned (.plain (OpenSpec.ofChange sumsThreeSpec)) sumsThreeCard

/-- THE TIED CARD OF 'flumelaw01.SumsTurned'. -/
def sumsTurnedCard : Claim7 := { stood := { row := sumsTurnedRow, standIns := [], harness := (true, "cbdc7f74d8af848eb8a8492215325a1378972d0d2750e954abc8aae96ae24863"), looks := false }, kinds := [], alts := [], laidByText := true, laidKinds := [.data], laidTests := true, laidLooks := .later }
def SumsTurnedCardSaid : Prop := Claim7.holds Tryd.pinned (.plain (OpenSpec.ofChange sumsTurnedSpec)) sumsTurnedCard

/-- THE SECOND FORM's CARD OF 'flumelaw01.SumsInets'. -/
def sumsInetsUptoCard : Claim7 := { stood := { row := sumsInetsUptoRow, standIns := [], harness := (true, "cbdc7f74d8af848eb8a8492215325a1378972d0d2750e954abc8aae96ae24863"), looks := false }, kinds := [], alts := [], laidByText := true, laidKinds := [.data], laidTests := true, laidLooks := .later }
def SumsInetsUptoCardSaid : Prop := Claim7.holds Tryd.pinned (.plain (OpenSpec.upto sumsInetsSpec)) sumsInetsUptoCard

/-- THE SECOND FORM's CARD OF 'flumelaw01.SumsUpdates'. -/
def sumsUpdatesUptoCard : Claim7 := { stood := { row := sumsUpdatesUptoRow, standIns := [], harness := (true, "cbdc7f74d8af848eb8a8492215325a1378972d0d2750e954abc8aae96ae24863"), looks := false }, kinds := [], alts := [], laidByText := true, laidKinds := [.data], laidTests := true, laidLooks := .later }
def SumsUpdatesUptoCardSaid : Prop := Claim7.holds Tryd.pinned (.plain (OpenSpec.upto sumsUpdatesSpec)) sumsUpdatesUptoCard

/-- THE SECOND FORM's CARD OF 'flumelaw01.SumsHolds'. -/
def sumsHoldsUptoCard : Claim7 := { stood := { row := sumsHoldsUptoRow, standIns := [], harness := (true, "cbdc7f74d8af848eb8a8492215325a1378972d0d2750e954abc8aae96ae24863"), looks := false }, kinds := [], alts := [], laidByText := true, laidKinds := [.data], laidTests := true, laidLooks := .later }
def SumsHoldsUptoCardSaid : Prop := Claim7.holds Tryd.pinned (.plain (OpenSpec.upto sumsHoldsSpec)) sumsHoldsUptoCard

/-- THE SECOND FORM's CARD OF 'flumelaw01.SumsMoves'. -/
def sumsMovesUptoCard : Claim7 := { stood := { row := sumsMovesUptoRow, standIns := [], harness := (true, "cbdc7f74d8af848eb8a8492215325a1378972d0d2750e954abc8aae96ae24863"), looks := false }, kinds := [], alts := [], laidByText := true, laidKinds := [.data], laidTests := true, laidLooks := .later }
def SumsMovesUptoCardSaid : Prop := Claim7.holds Tryd.pinned (.plain (OpenSpec.upto sumsMovesSpec)) sumsMovesUptoCard

/-- THE SECOND FORM's CARD OF 'flumelaw01.SumsFollows'. -/
def sumsFollowsUptoCard : Claim7 := { stood := { row := sumsFollowsUptoRow, standIns := [], harness := (true, "cbdc7f74d8af848eb8a8492215325a1378972d0d2750e954abc8aae96ae24863"), looks := false }, kinds := [], alts := [], laidByText := true, laidKinds := [.data], laidTests := true, laidLooks := .later }
def SumsFollowsUptoCardSaid : Prop := Claim7.holds Tryd.pinned (.plain (OpenSpec.upto sumsFollowsSpec)) sumsFollowsUptoCard

/-- THE SECOND FORM's CARD OF 'flumelaw01.SumsCrcs'. -/
def sumsCrcsUptoCard : Claim7 := { stood := { row := sumsCrcsUptoRow, standIns := [], harness := (true, "cbdc7f74d8af848eb8a8492215325a1378972d0d2750e954abc8aae96ae24863"), looks := false }, kinds := [], alts := [], laidByText := true, laidKinds := [.data], laidTests := true, laidLooks := .later }
def SumsCrcsUptoCardSaid : Prop := Claim7.holds Tryd.pinned (.plain (OpenSpec.upto sumsCrcsSpec)) sumsCrcsUptoCard

/-- THE SECOND FORM's CARD OF 'flumelaw01.SumsSeals'. -/
def sumsSealsUptoCard : Claim7 := { stood := { row := sumsSealsUptoRow, standIns := [], harness := (true, "cbdc7f74d8af848eb8a8492215325a1378972d0d2750e954abc8aae96ae24863"), looks := false }, kinds := [], alts := [], laidByText := true, laidKinds := [.data], laidTests := true, laidLooks := .later }
def SumsSealsUptoCardSaid : Prop := Claim7.holds Tryd.pinned (.plain (OpenSpec.upto sumsSealsSpec)) sumsSealsUptoCard

/-- THE SECOND FORM's CARD OF 'flumelaw01.SumsBack'. -/
def sumsBackUptoCard : Claim7 := { stood := { row := sumsBackUptoRow, standIns := [], harness := (true, "cbdc7f74d8af848eb8a8492215325a1378972d0d2750e954abc8aae96ae24863"), looks := false }, kinds := [], alts := [], laidByText := true, laidKinds := [.data], laidTests := true, laidLooks := .later }
def SumsBackUptoCardSaid : Prop := Claim7.holds Tryd.pinned (.plain (OpenSpec.upto sumsBackSpec)) sumsBackUptoCard

/-- THE SECOND FORM's CARD OF 'flumelaw01.SumsBurst'. -/
def sumsBurstUptoCard : Claim7 := { stood := { row := sumsBurstUptoRow, standIns := [], harness := (true, "cbdc7f74d8af848eb8a8492215325a1378972d0d2750e954abc8aae96ae24863"), looks := false }, kinds := [], alts := [], laidByText := true, laidKinds := [.data], laidTests := true, laidLooks := .later }
def SumsBurstUptoCardSaid : Prop := Claim7.holds Tryd.pinned (.plain (OpenSpec.upto sumsBurstSpec)) sumsBurstUptoCard

/-- THE SECOND FORM's CARD OF 'flumelaw01.SumsThree'. -/
def sumsThreeUptoCard : Claim7 := { stood := { row := sumsThreeUptoRow, standIns := [], harness := (true, "cbdc7f74d8af848eb8a8492215325a1378972d0d2750e954abc8aae96ae24863"), looks := false }, kinds := [], alts := [], laidByText := true, laidKinds := [.data], laidTests := true, laidLooks := .later }
def SumsThreeUptoCardSaid : Prop := Claim7.holds Tryd.pinned (.plain (OpenSpec.upto sumsThreeSpec)) sumsThreeUptoCard

/-- THE SECOND FORM's CARD OF 'flumelaw01.SumsTurned'. -/
def sumsTurnedUptoCard : Claim7 := { stood := { row := sumsTurnedUptoRow, standIns := [], harness := (true, "cbdc7f74d8af848eb8a8492215325a1378972d0d2750e954abc8aae96ae24863"), looks := false }, kinds := [], alts := [], laidByText := true, laidKinds := [.data], laidTests := true, laidLooks := .later }
def SumsTurnedUptoCardSaid : Prop := Claim7.holds Tryd.pinned (.plain (OpenSpec.upto sumsTurnedSpec)) sumsTurnedUptoCard
end Rows
end Go.Proofs.YtkgfbehlcjjjnaaDoor
