/-
  DERIVED. GIVEN WITH THE SEED: THE CARDS: each row of YtjgaoajbcbpbbaaDoorRows.lean that lists a variable, with what it lists TIED to the program's text (the seventh form; the later family's looks); each row that meets fmt, with fmt's text TOLD by the authors' own Lean function (tested against real Go, not proved from fmt's source: count such statements apart). THE CARD IS WHAT COUNTS. Prove the row's statement (the work); the ties are given (YtjgaoajbcbpbbaaDoorTie.lean); close each card by the builder's one call (the guide's Derived/Test/ToyasCard.lean, 'card_holds'). Laid BY PROGRAM, IN A SANDBOX (cutbox-door.mjs). By AI agents, Wed Nov 11 2026. No macro, syntax, notation, axiom, sorry.
-/
import Derived.Test.YtjgaoajbcbpbbaaDoorRows
import GoSem.ClaimSeven
namespace Go.Proofs.YtjgaoajbcbpbbaaDoor
namespace Rows

/-- THE TIED CARD OF 'circalaw08.EndsOrder'. -/
def endsOrderCard : Claim7 := { stood := { row := endsOrderRow, standIns := [], harness := (true, "c68f9aa1b0683fc48a9a4c14db74eff2a5cf35b9547a09ddf22ae65c869690d9"), looks := true }, kinds := [], alts := [], laidByText := true, laidKinds := [.data, .data, .data, .sentinel, .sentinel], laidTests := true, laidLooks := .later }
def EndsOrderCardSaid : Prop := Claim7.holds Tryd.pinned (.plain (OpenSpec.ofChange endsOrderSpec)) endsOrderCard

/-- THE TIED CARD OF 'circalaw08.EndsNext'. -/
def endsNextCard : Claim7 := { stood := { row := endsNextRow, standIns := [], harness := (true, "c68f9aa1b0683fc48a9a4c14db74eff2a5cf35b9547a09ddf22ae65c869690d9"), looks := true }, kinds := [], alts := [], laidByText := true, laidKinds := [.data, .data, .data, .sentinel, .sentinel], laidTests := true, laidLooks := .later }
def EndsNextCardSaid : Prop := Claim7.holds Tryd.pinned (.plain (OpenSpec.ofChange endsNextSpec)) endsNextCard

/-- THE TIED CARD OF 'circalaw08.EndsText'. -/
def endsTextCard : Claim7 := { stood := { row := endsTextRow, standIns := [], harness := (true, "c68f9aa1b0683fc48a9a4c14db74eff2a5cf35b9547a09ddf22ae65c869690d9"), looks := true }, kinds := [], alts := [], laidByText := true, laidKinds := [.data, .data, .data, .sentinel, .sentinel], laidTests := true, laidLooks := .later }
def EndsTextCardSaid : Prop := Claim7.holds Tryd.pinned (.plain (OpenSpec.ofChange endsTextSpec)) endsTextCard

/-- THE TIED CARD OF 'circalaw08.EndsParse'. -/
def endsParseCard : Claim7 := { stood := { row := endsParseRow, standIns := [], harness := (true, "c68f9aa1b0683fc48a9a4c14db74eff2a5cf35b9547a09ddf22ae65c869690d9"), looks := true }, kinds := [], alts := [], laidByText := true, laidKinds := [.data, .data, .data, .sentinel, .sentinel], laidTests := true, laidLooks := .later }
def EndsParseCardSaid : Prop := Claim7.holds Tryd.pinned (.plain (OpenSpec.ofChange endsParseSpec)) endsParseCard

/-- THE TIED CARD OF 'circalaw08.EndsKnown'. -/
def endsKnownCard : Claim7 := { stood := { row := endsKnownRow, standIns := [], harness := (true, "c68f9aa1b0683fc48a9a4c14db74eff2a5cf35b9547a09ddf22ae65c869690d9"), looks := true }, kinds := [], alts := [], laidByText := true, laidKinds := [.data, .data, .data, .sentinel, .sentinel], laidTests := true, laidLooks := .later }
def EndsKnownCardSaid : Prop := Claim7.holds Tryd.pinned (.plain (OpenSpec.ofChange endsKnownSpec)) endsKnownCard

/-- THE SECOND FORM's CARD OF 'circalaw08.EndsOrder'. -/
def endsOrderUptoCard : Claim7 := { stood := { row := endsOrderUptoRow, standIns := [], harness := (true, "c68f9aa1b0683fc48a9a4c14db74eff2a5cf35b9547a09ddf22ae65c869690d9"), looks := true }, kinds := [], alts := [], laidByText := true, laidKinds := [.data, .data, .data, .sentinel, .sentinel], laidTests := true, laidLooks := .later }
def EndsOrderUptoCardSaid : Prop := Claim7.holds Tryd.pinned (.plain (OpenSpec.upto endsOrderSpec)) endsOrderUptoCard

/-- THE SECOND FORM's CARD OF 'circalaw08.EndsNext'. -/
def endsNextUptoCard : Claim7 := { stood := { row := endsNextUptoRow, standIns := [], harness := (true, "c68f9aa1b0683fc48a9a4c14db74eff2a5cf35b9547a09ddf22ae65c869690d9"), looks := true }, kinds := [], alts := [], laidByText := true, laidKinds := [.data, .data, .data, .sentinel, .sentinel], laidTests := true, laidLooks := .later }
def EndsNextUptoCardSaid : Prop := Claim7.holds Tryd.pinned (.plain (OpenSpec.upto endsNextSpec)) endsNextUptoCard

/-- THE SECOND FORM's CARD OF 'circalaw08.EndsText'. -/
def endsTextUptoCard : Claim7 := { stood := { row := endsTextUptoRow, standIns := [], harness := (true, "c68f9aa1b0683fc48a9a4c14db74eff2a5cf35b9547a09ddf22ae65c869690d9"), looks := true }, kinds := [], alts := [], laidByText := true, laidKinds := [.data, .data, .data, .sentinel, .sentinel], laidTests := true, laidLooks := .later }
def EndsTextUptoCardSaid : Prop := Claim7.holds Tryd.pinned (.plain (OpenSpec.upto endsTextSpec)) endsTextUptoCard

/-- THE SECOND FORM's CARD OF 'circalaw08.EndsParse'. -/
def endsParseUptoCard : Claim7 := { stood := { row := endsParseUptoRow, standIns := [], harness := (true, "c68f9aa1b0683fc48a9a4c14db74eff2a5cf35b9547a09ddf22ae65c869690d9"), looks := true }, kinds := [], alts := [], laidByText := true, laidKinds := [.data, .data, .data, .sentinel, .sentinel], laidTests := true, laidLooks := .later }
def EndsParseUptoCardSaid : Prop := Claim7.holds Tryd.pinned (.plain (OpenSpec.upto endsParseSpec)) endsParseUptoCard

/-- THE SECOND FORM's CARD OF 'circalaw08.EndsKnown'. -/
def endsKnownUptoCard : Claim7 := { stood := { row := endsKnownUptoRow, standIns := [], harness := (true, "c68f9aa1b0683fc48a9a4c14db74eff2a5cf35b9547a09ddf22ae65c869690d9"), looks := true }, kinds := [], alts := [], laidByText := true, laidKinds := [.data, .data, .data, .sentinel, .sentinel], laidTests := true, laidLooks := .later }
def EndsKnownUptoCardSaid : Prop := Claim7.holds Tryd.pinned (.plain (OpenSpec.upto endsKnownSpec)) endsKnownUptoCard
end Rows
end Go.Proofs.YtjgaoajbcbpbbaaDoor
