/-
  DERIVED. GIVEN WITH THE SEED: THE CARDS: each row of YtmbaohjekeiphaaDoorRows.lean that lists a variable, with what it lists TIED to the program's text (the seventh form; the later family's looks); each row that meets fmt, with fmt's text TOLD by the authors' own Lean function (tested against real Go, not proved from fmt's source: count such statements apart). THE CARD IS WHAT COUNTS. Prove the row's statement (the work); the ties are given (YtmbaohjekeiphaaDoorTie.lean); close each card by the builder's one call (the guide's Derived/Test/ToyasCard.lean, 'card_holds'). Laid BY PROGRAM, IN A SANDBOX (cutbox-door.mjs). By AI agents, Wed Nov 11 2026. No macro, syntax, notation, axiom, sorry.
-/
import Derived.Test.YtmbaohjekeiphaaDoorRows
import GoSem.ClaimSeven
namespace Go.Proofs.YtmbaohjekeiphaaDoor
namespace Rows

/-- THE TIED CARD OF 'circalaw09.RunsPlain'. -/
def runsPlainCard : Claim7 := { stood := { row := runsPlainRow, standIns := [], harness := (true, "ca3ad60eb29b4fb4ce8541d10c0c5041d7462fa293c84333d874fba3987c44bc"), looks := true }, kinds := [], alts := [], laidByText := true, laidKinds := [.data, .data, .data, .sentinel, .sentinel], laidTests := true, laidLooks := .later }
def RunsPlainCardSaid : Prop := Claim7.holds Tryd.pinned (.plain (OpenSpec.ofChange runsPlainSpec)) runsPlainCard

/-- THE TIED CARD OF 'circalaw09.RunsText'. -/
def runsTextCard : Claim7 := { stood := { row := runsTextRow, standIns := [], harness := (true, "ca3ad60eb29b4fb4ce8541d10c0c5041d7462fa293c84333d874fba3987c44bc"), looks := true }, kinds := [], alts := [], laidByText := true, laidKinds := [.data, .data, .data, .sentinel, .sentinel], laidTests := true, laidLooks := .later }
def RunsTextCardSaid : Prop := Claim7.holds Tryd.pinned (.plain (OpenSpec.ofChange runsTextSpec)) runsTextCard

/-- THE SECOND FORM's CARD OF 'circalaw09.RunsPlain'. -/
def runsPlainUptoCard : Claim7 := { stood := { row := runsPlainUptoRow, standIns := [], harness := (true, "ca3ad60eb29b4fb4ce8541d10c0c5041d7462fa293c84333d874fba3987c44bc"), looks := true }, kinds := [], alts := [], laidByText := true, laidKinds := [.data, .data, .data, .sentinel, .sentinel], laidTests := true, laidLooks := .later }
def RunsPlainUptoCardSaid : Prop := Claim7.holds Tryd.pinned (.plain (OpenSpec.upto runsPlainSpec)) runsPlainUptoCard

/-- THE SECOND FORM's CARD OF 'circalaw09.RunsText'. -/
def runsTextUptoCard : Claim7 := { stood := { row := runsTextUptoRow, standIns := [], harness := (true, "ca3ad60eb29b4fb4ce8541d10c0c5041d7462fa293c84333d874fba3987c44bc"), looks := true }, kinds := [], alts := [], laidByText := true, laidKinds := [.data, .data, .data, .sentinel, .sentinel], laidTests := true, laidLooks := .later }
def RunsTextUptoCardSaid : Prop := Claim7.holds Tryd.pinned (.plain (OpenSpec.upto runsTextSpec)) runsTextUptoCard
end Rows
end Go.Proofs.YtmbaohjekeiphaaDoor
