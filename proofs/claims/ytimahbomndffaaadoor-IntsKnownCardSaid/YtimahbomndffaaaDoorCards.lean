/-
  DERIVED. GIVEN WITH THE SEED: THE CARDS: each row of YtimahbomndffaaaDoorRows.lean that lists a variable, with what it lists TIED to the program's text (the seventh form; the later family's looks); each row that meets fmt, with fmt's text TOLD by the authors' own Lean function (tested against real Go, not proved from fmt's source: count such statements apart). THE CARD IS WHAT COUNTS. Prove the row's statement (the work); the ties are given (YtimahbomndffaaaDoorTie.lean); close each card by the builder's one call (the guide's Derived/Test/ToyasCard.lean, 'card_holds'). Laid BY PROGRAM, IN A SANDBOX (cutbox-door.mjs). By AI agents, Wed Nov 11 2026. No macro, syntax, notation, axiom, sorry.
-/
import Derived.Test.YtimahbomndffaaaDoorRows
import GoSem.ClaimSeven
namespace Go.Proofs.YtimahbomndffaaaDoor
namespace Rows

/-- THE TIED CARD OF 'circalaw01.IntsSums'. -/
def intsSumsCard : Claim7 := { stood := { row := intsSumsRow, standIns := [], harness := (true, "efa758ae0be070f9b6fa0d049f3ef73159bdc28b7f81c5ea9af2a0584eb274eb"), looks := true }, kinds := [], alts := [], laidByText := true, laidKinds := [.data, .data, .data, .sentinel, .sentinel], laidTests := true, laidLooks := .later }
def IntsSumsCardSaid : Prop := Claim7.holds Tryd.pinned (.plain (OpenSpec.ofChange intsSumsSpec)) intsSumsCard

/-- THE TIED CARD OF 'circalaw01.IntsDivs'. -/
def intsDivsCard : Claim7 := { stood := { row := intsDivsRow, standIns := [], harness := (true, "efa758ae0be070f9b6fa0d049f3ef73159bdc28b7f81c5ea9af2a0584eb274eb"), looks := true }, kinds := [], alts := [], laidByText := true, laidKinds := [.data, .data, .data, .sentinel, .sentinel], laidTests := true, laidLooks := .later }
def IntsDivsCardSaid : Prop := Claim7.holds Tryd.pinned (.plain (OpenSpec.ofChange intsDivsSpec)) intsDivsCard

/-- THE TIED CARD OF 'circalaw01.IntsGcd'. -/
def intsGcdCard : Claim7 := { stood := { row := intsGcdRow, standIns := [], harness := (true, "efa758ae0be070f9b6fa0d049f3ef73159bdc28b7f81c5ea9af2a0584eb274eb"), looks := true }, kinds := [], alts := [], laidByText := true, laidKinds := [.data, .data, .data, .sentinel, .sentinel], laidTests := true, laidLooks := .later }
def IntsGcdCardSaid : Prop := Claim7.holds Tryd.pinned (.plain (OpenSpec.ofChange intsGcdSpec)) intsGcdCard

/-- THE TIED CARD OF 'circalaw01.IntsText'. -/
def intsTextCard : Claim7 := { stood := { row := intsTextRow, standIns := [], harness := (true, "efa758ae0be070f9b6fa0d049f3ef73159bdc28b7f81c5ea9af2a0584eb274eb"), looks := true }, kinds := [], alts := [], laidByText := true, laidKinds := [.data, .data, .data, .sentinel, .sentinel], laidTests := true, laidLooks := .later }
def IntsTextCardSaid : Prop := Claim7.holds Tryd.pinned (.plain (OpenSpec.ofChange intsTextSpec)) intsTextCard

/-- THE TIED CARD OF 'circalaw01.IntsParse'. -/
def intsParseCard : Claim7 := { stood := { row := intsParseRow, standIns := [], harness := (true, "efa758ae0be070f9b6fa0d049f3ef73159bdc28b7f81c5ea9af2a0584eb274eb"), looks := true }, kinds := [], alts := [], laidByText := true, laidKinds := [.data, .data, .data, .sentinel, .sentinel], laidTests := true, laidLooks := .later }
def IntsParseCardSaid : Prop := Claim7.holds Tryd.pinned (.plain (OpenSpec.ofChange intsParseSpec)) intsParseCard

/-- THE TIED CARD OF 'circalaw01.IntsKnown'. -/
def intsKnownCard : Claim7 := { stood := { row := intsKnownRow, standIns := [], harness := (true, "efa758ae0be070f9b6fa0d049f3ef73159bdc28b7f81c5ea9af2a0584eb274eb"), looks := true }, kinds := [], alts := [], laidByText := true, laidKinds := [.data, .data, .data, .sentinel, .sentinel], laidTests := true, laidLooks := .later }
def IntsKnownCardSaid : Prop := Claim7.holds Tryd.pinned (.plain (OpenSpec.ofChange intsKnownSpec)) intsKnownCard

/-- THE SECOND FORM's CARD OF 'circalaw01.IntsSums'. -/
def intsSumsUptoCard : Claim7 := { stood := { row := intsSumsUptoRow, standIns := [], harness := (true, "efa758ae0be070f9b6fa0d049f3ef73159bdc28b7f81c5ea9af2a0584eb274eb"), looks := true }, kinds := [], alts := [], laidByText := true, laidKinds := [.data, .data, .data, .sentinel, .sentinel], laidTests := true, laidLooks := .later }
def IntsSumsUptoCardSaid : Prop := Claim7.holds Tryd.pinned (.plain (OpenSpec.upto intsSumsSpec)) intsSumsUptoCard

/-- THE SECOND FORM's CARD OF 'circalaw01.IntsDivs'. -/
def intsDivsUptoCard : Claim7 := { stood := { row := intsDivsUptoRow, standIns := [], harness := (true, "efa758ae0be070f9b6fa0d049f3ef73159bdc28b7f81c5ea9af2a0584eb274eb"), looks := true }, kinds := [], alts := [], laidByText := true, laidKinds := [.data, .data, .data, .sentinel, .sentinel], laidTests := true, laidLooks := .later }
def IntsDivsUptoCardSaid : Prop := Claim7.holds Tryd.pinned (.plain (OpenSpec.upto intsDivsSpec)) intsDivsUptoCard

/-- THE SECOND FORM's CARD OF 'circalaw01.IntsGcd'. -/
def intsGcdUptoCard : Claim7 := { stood := { row := intsGcdUptoRow, standIns := [], harness := (true, "efa758ae0be070f9b6fa0d049f3ef73159bdc28b7f81c5ea9af2a0584eb274eb"), looks := true }, kinds := [], alts := [], laidByText := true, laidKinds := [.data, .data, .data, .sentinel, .sentinel], laidTests := true, laidLooks := .later }
def IntsGcdUptoCardSaid : Prop := Claim7.holds Tryd.pinned (.plain (OpenSpec.upto intsGcdSpec)) intsGcdUptoCard

/-- THE SECOND FORM's CARD OF 'circalaw01.IntsText'. -/
def intsTextUptoCard : Claim7 := { stood := { row := intsTextUptoRow, standIns := [], harness := (true, "efa758ae0be070f9b6fa0d049f3ef73159bdc28b7f81c5ea9af2a0584eb274eb"), looks := true }, kinds := [], alts := [], laidByText := true, laidKinds := [.data, .data, .data, .sentinel, .sentinel], laidTests := true, laidLooks := .later }
def IntsTextUptoCardSaid : Prop := Claim7.holds Tryd.pinned (.plain (OpenSpec.upto intsTextSpec)) intsTextUptoCard

/-- THE SECOND FORM's CARD OF 'circalaw01.IntsParse'. -/
def intsParseUptoCard : Claim7 := { stood := { row := intsParseUptoRow, standIns := [], harness := (true, "efa758ae0be070f9b6fa0d049f3ef73159bdc28b7f81c5ea9af2a0584eb274eb"), looks := true }, kinds := [], alts := [], laidByText := true, laidKinds := [.data, .data, .data, .sentinel, .sentinel], laidTests := true, laidLooks := .later }
def IntsParseUptoCardSaid : Prop := Claim7.holds Tryd.pinned (.plain (OpenSpec.upto intsParseSpec)) intsParseUptoCard

/-- THE SECOND FORM's CARD OF 'circalaw01.IntsKnown'. -/
def intsKnownUptoCard : Claim7 := { stood := { row := intsKnownUptoRow, standIns := [], harness := (true, "efa758ae0be070f9b6fa0d049f3ef73159bdc28b7f81c5ea9af2a0584eb274eb"), looks := true }, kinds := [], alts := [], laidByText := true, laidKinds := [.data, .data, .data, .sentinel, .sentinel], laidTests := true, laidLooks := .later }
def IntsKnownUptoCardSaid : Prop := Claim7.holds Tryd.pinned (.plain (OpenSpec.upto intsKnownSpec)) intsKnownUptoCard
end Rows
end Go.Proofs.YtimahbomndffaaaDoor
