/-
  No cell of these rows narrows 'for every input' (looked for: loops, veiled, ifaces, maps, wideKeys, modest, calm, conditions, laid).
  DERIVED. THE GIVEN ROWS OF THIS SEAT. 5 by the template 'for every input the law returns true; each argument reads behind the call as it read before'; 0 by the template 'total and deterministic' (their statements: YthgnoeigjngniaaTotals.lean).
  GIVEN WITH THE SEED: the statements are not yours to turn. If you find one false, say at which input.
  Laid BY PROGRAM, IN A SANDBOX (cutbox-rows.mjs): the forced cells as the released guide's own fill.sh prints them over the translation c1b164e27957cc65… (all of the seat's roots in one cut). By AI agents, Wed Nov 11 2026. No macro, syntax, notation, axiom, sorry.
-/
import Derived.Test.YthgnoeigjngniaaChecked
import GoSem.Claim
import GoSem.ClaimJoined
import GoSem.ClaimMapViews
import Derived.JoinedTies
import Derived.KernelRfl
namespace Go.Proofs.Ythgnoeigjngniaa
/- THE CELL 'sum', in the pinned program and in every row, IS THE sha256 OF THE DUMP (.gsa) THAT YthgnoeigjngniaaProg.lean LOADS. Nothing in Lean hashes anything: it is a label: what it is worth is what the hold of that sum in a sandbox is worth. -/
noncomputable def Try.pinned : Pinned := { name := "ythgnoeigjngniaa", sum := "c1b164e27957cc659b4aeb31f24d1fa51908c0e87b3c18d9d4ee5bbffaa7cb66", checked := Try.checked }
namespace Rows
def none {H : Type} : Left H := { results := [], args := [] }

/-- 'circalaw03.MasksNumbers': WHATEVER THE INPUT: true; the input reads as it did. -/
def masksNumbersSpec : ChangeSpec := { name := "masksNumbers", fn := fun _ => fun
  | [d1, d2, d3] => { results := [.lit (.bool true)], args := [d1, d2, d3] }
  | _ => none }
def masksNumbersRow : OpenClaim := { program := "ythgnoeigjngniaa", sum := "c1b164e27957cc659b4aeb31f24d1fa51908c0e87b3c18d9d4ee5bbffaa7cb66", func := "circa/circalaw03.MasksNumbers", spec := "masksNumbers", inPlace := ["internal/bytealg.CountString", "internal/bytealg.IndexByteString", "internal/bytealg.IndexString"], named := ["internal/bytealg.MaxLen"], apart := false }
def MasksNumbersSaid : Prop := masksNumbersRow.holds Try.pinned (OpenSpec.ofChange masksNumbersSpec)

/-- ITS FALSE NEIGHBOUR: 'it returns false'. Refute it at one input. -/
def masksNumbersWrong : ChangeSpec := { name := "masksNumbers", fn := fun _ => fun
  | [d1, d2, d3] => { results := [.lit (.bool false)], args := [d1, d2, d3] }
  | _ => none }
def MasksNumbersWrongFalsely : Prop := masksNumbersRow.holds Try.pinned (OpenSpec.ofChange masksNumbersWrong)

/-- 'circalaw03.MasksNext': WHATEVER THE INPUT: true; the input reads as it did. -/
def masksNextSpec : ChangeSpec := { name := "masksNext", fn := fun _ => fun
  | [d1, d2, d3] => { results := [.lit (.bool true)], args := [d1, d2, d3] }
  | _ => none }
def masksNextRow : OpenClaim := { program := "ythgnoeigjngniaa", sum := "c1b164e27957cc659b4aeb31f24d1fa51908c0e87b3c18d9d4ee5bbffaa7cb66", func := "circa/circalaw03.MasksNext", spec := "masksNext", inPlace := ["internal/bytealg.CountString", "internal/bytealg.IndexByteString", "internal/bytealg.IndexString"], named := ["internal/bytealg.MaxLen"], apart := false }
def MasksNextSaid : Prop := masksNextRow.holds Try.pinned (OpenSpec.ofChange masksNextSpec)

/-- ITS FALSE NEIGHBOUR: 'it returns false'. Refute it at one input. -/
def masksNextWrong : ChangeSpec := { name := "masksNext", fn := fun _ => fun
  | [d1, d2, d3] => { results := [.lit (.bool false)], args := [d1, d2, d3] }
  | _ => none }
def MasksNextWrongFalsely : Prop := masksNextRow.holds Try.pinned (OpenSpec.ofChange masksNextWrong)

/-- 'circalaw03.MasksCommon': WHATEVER THE INPUT: true; the input reads as it did. -/
def masksCommonSpec : ChangeSpec := { name := "masksCommon", fn := fun _ => fun
  | [d1, d2, d3] => { results := [.lit (.bool true)], args := [d1, d2, d3] }
  | _ => none }
def masksCommonRow : OpenClaim := { program := "ythgnoeigjngniaa", sum := "c1b164e27957cc659b4aeb31f24d1fa51908c0e87b3c18d9d4ee5bbffaa7cb66", func := "circa/circalaw03.MasksCommon", spec := "masksCommon", inPlace := ["internal/bytealg.CountString", "internal/bytealg.IndexByteString", "internal/bytealg.IndexString"], named := ["internal/bytealg.MaxLen"], apart := false }
def MasksCommonSaid : Prop := masksCommonRow.holds Try.pinned (OpenSpec.ofChange masksCommonSpec)

/-- ITS FALSE NEIGHBOUR: 'it returns false'. Refute it at one input. -/
def masksCommonWrong : ChangeSpec := { name := "masksCommon", fn := fun _ => fun
  | [d1, d2, d3] => { results := [.lit (.bool false)], args := [d1, d2, d3] }
  | _ => none }
def MasksCommonWrongFalsely : Prop := masksCommonRow.holds Try.pinned (OpenSpec.ofChange masksCommonWrong)

/-- 'circalaw03.MasksErrors': WHATEVER THE INPUT: true; the input reads as it did. -/
def masksErrorsSpec : ChangeSpec := { name := "masksErrors", fn := fun _ => fun
  | [d1, d2, d3] => { results := [.lit (.bool true)], args := [d1, d2, d3] }
  | _ => none }
def masksErrorsRow : OpenClaim := { program := "ythgnoeigjngniaa", sum := "c1b164e27957cc659b4aeb31f24d1fa51908c0e87b3c18d9d4ee5bbffaa7cb66", func := "circa/circalaw03.MasksErrors", spec := "masksErrors", inPlace := ["internal/bytealg.CountString", "internal/bytealg.IndexByteString", "internal/bytealg.IndexString"], named := ["internal/bytealg.MaxLen"], apart := false }
def MasksErrorsSaid : Prop := masksErrorsRow.holds Try.pinned (OpenSpec.ofChange masksErrorsSpec)

/-- ITS FALSE NEIGHBOUR: 'it returns false'. Refute it at one input. -/
def masksErrorsWrong : ChangeSpec := { name := "masksErrors", fn := fun _ => fun
  | [d1, d2, d3] => { results := [.lit (.bool false)], args := [d1, d2, d3] }
  | _ => none }
def MasksErrorsWrongFalsely : Prop := masksErrorsRow.holds Try.pinned (OpenSpec.ofChange masksErrorsWrong)

/-- 'circalaw03.MasksKnown': WHATEVER THE INPUT: true; the input reads as it did. -/
def masksKnownSpec : ChangeSpec := { name := "masksKnown", fn := fun _ => fun
  | [] => { results := [.lit (.bool true)], args := [] }
  | _ => none }
def masksKnownRow : OpenClaim := { program := "ythgnoeigjngniaa", sum := "c1b164e27957cc659b4aeb31f24d1fa51908c0e87b3c18d9d4ee5bbffaa7cb66", func := "circa/circalaw03.MasksKnown", spec := "masksKnown", inPlace := ["internal/bytealg.CountString", "internal/bytealg.IndexByteString", "internal/bytealg.IndexString"], named := ["internal/bytealg.MaxLen"], apart := false }
def MasksKnownSaid : Prop := masksKnownRow.holds Try.pinned (OpenSpec.ofChange masksKnownSpec)

/-- ITS FALSE NEIGHBOUR: 'it returns false'. Refute it at one input. -/
def masksKnownWrong : ChangeSpec := { name := "masksKnown", fn := fun _ => fun
  | [] => { results := [.lit (.bool false)], args := [] }
  | _ => none }
def MasksKnownWrongFalsely : Prop := masksKnownRow.holds Try.pinned (OpenSpec.ofChange masksKnownWrong)

/- THE SECOND FORM. 'bulk': how many values and letters a reading holds, each counted each time it is reached (what is shared counts as often as it is met; a slice's spare places count too). A statement '..UptoSaid' is the law's where the arguments, and the package variables that the reading takes, are together of bulk at most 1048576: NARROWER than '..Said'. Prove '..Said' where nothing that the law and all that it calls make is longer than what came in: it says more and counts as full. Else prove '..UptoSaid'. A law counts once. -/
mutual
def uptoBulk {H : Type} : DataW H → Nat
  | .lit (.string bytes) => bytes.length + 1
  | .lit _ => 1
  | .nil => 1
  | .ptr d => uptoBulk d + 1
  | .slice elems spare => uptoBulkAll elems + uptoBulkAll spare + 1
  | .agg parts => uptoBulkAll parts + 1
  | .iface _ d => uptoBulk d + 1
  | .map entries => uptoBulkEntries entries + 1
  | .held _ => 1
def uptoBulkAll {H : Type} : List (DataW H) → Nat
  | [] => 0
  | d :: r => uptoBulk d + uptoBulkAll r
def uptoBulkEntries {H : Type} : List (Lit × DataW H) → Nat
  | [] => 0
  | x :: r => uptoBulkEntry x + uptoBulkEntries r
def uptoBulkEntry {H : Type} : Lit × DataW H → Nat
  | (.string bytes, d) => bytes.length + uptoBulk d + 1
  | (_, d) => uptoBulk d + 1
 end
def uptoSmall : (H : Type) → List (DataW H) → Bool := fun _ ds => decide (uptoBulkAll ds ≤ 1048576)
def OpenSpec.upto (s : _root_.Go.ChangeSpec) : _root_.Go.OpenSpec := { _root_.Go.OpenSpec.ofChange s with cond := some uptoSmall }

/-- 'circalaw03.MasksNumbers', WHERE WHAT IT READS IS OF BULK AT MOST 1048576: true; the input reads as it did. -/
def masksNumbersUptoRow : OpenClaim := { program := "ythgnoeigjngniaa", sum := "c1b164e27957cc659b4aeb31f24d1fa51908c0e87b3c18d9d4ee5bbffaa7cb66", func := "circa/circalaw03.MasksNumbers", spec := "masksNumbers", inPlace := ["internal/bytealg.CountString", "internal/bytealg.IndexByteString", "internal/bytealg.IndexString"], named := ["internal/bytealg.MaxLen"], apart := false, narrowed := true }
def MasksNumbersUptoSaid : Prop := masksNumbersUptoRow.holds Try.pinned (OpenSpec.upto masksNumbersSpec)

/-- 'circalaw03.MasksNext', WHERE WHAT IT READS IS OF BULK AT MOST 1048576: true; the input reads as it did. -/
def masksNextUptoRow : OpenClaim := { program := "ythgnoeigjngniaa", sum := "c1b164e27957cc659b4aeb31f24d1fa51908c0e87b3c18d9d4ee5bbffaa7cb66", func := "circa/circalaw03.MasksNext", spec := "masksNext", inPlace := ["internal/bytealg.CountString", "internal/bytealg.IndexByteString", "internal/bytealg.IndexString"], named := ["internal/bytealg.MaxLen"], apart := false, narrowed := true }
def MasksNextUptoSaid : Prop := masksNextUptoRow.holds Try.pinned (OpenSpec.upto masksNextSpec)

/-- 'circalaw03.MasksCommon', WHERE WHAT IT READS IS OF BULK AT MOST 1048576: true; the input reads as it did. -/
def masksCommonUptoRow : OpenClaim := { program := "ythgnoeigjngniaa", sum := "c1b164e27957cc659b4aeb31f24d1fa51908c0e87b3c18d9d4ee5bbffaa7cb66", func := "circa/circalaw03.MasksCommon", spec := "masksCommon", inPlace := ["internal/bytealg.CountString", "internal/bytealg.IndexByteString", "internal/bytealg.IndexString"], named := ["internal/bytealg.MaxLen"], apart := false, narrowed := true }
def MasksCommonUptoSaid : Prop := masksCommonUptoRow.holds Try.pinned (OpenSpec.upto masksCommonSpec)

/-- 'circalaw03.MasksErrors', WHERE WHAT IT READS IS OF BULK AT MOST 1048576: true; the input reads as it did. -/
def masksErrorsUptoRow : OpenClaim := { program := "ythgnoeigjngniaa", sum := "c1b164e27957cc659b4aeb31f24d1fa51908c0e87b3c18d9d4ee5bbffaa7cb66", func := "circa/circalaw03.MasksErrors", spec := "masksErrors", inPlace := ["internal/bytealg.CountString", "internal/bytealg.IndexByteString", "internal/bytealg.IndexString"], named := ["internal/bytealg.MaxLen"], apart := false, narrowed := true }
def MasksErrorsUptoSaid : Prop := masksErrorsUptoRow.holds Try.pinned (OpenSpec.upto masksErrorsSpec)

/-- 'circalaw03.MasksKnown', WHERE WHAT IT READS IS OF BULK AT MOST 1048576: true; the input reads as it did. -/
def masksKnownUptoRow : OpenClaim := { program := "ythgnoeigjngniaa", sum := "c1b164e27957cc659b4aeb31f24d1fa51908c0e87b3c18d9d4ee5bbffaa7cb66", func := "circa/circalaw03.MasksKnown", spec := "masksKnown", inPlace := ["internal/bytealg.CountString", "internal/bytealg.IndexByteString", "internal/bytealg.IndexString"], named := ["internal/bytealg.MaxLen"], apart := false, narrowed := true }
def MasksKnownUptoSaid : Prop := masksKnownUptoRow.holds Try.pinned (OpenSpec.upto masksKnownSpec)

end Rows
end Go.Proofs.Ythgnoeigjngniaa
