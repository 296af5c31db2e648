/-
  NARROWER THAN 'FOR EVERY INPUT', by the rows' own cells (each row's printed sentence says how): YearsStart: laid · YearsOf: laid · YearsLeaps: laid · YearsKnown: laid.
  DERIVED. THE GIVEN ROWS OF THIS SEAT. 4 by the template 'for every input the law returns true; each argument reads behind the call as it read before'; 0 by the template 'total and deterministic' (their statements: YtcecolmpnllfhaaDoorTotals.lean).
  GIVEN WITH THE SEED: the statements are not yours to turn. If you find one false, say at which input.
  Laid BY PROGRAM, IN A SANDBOX (cutbox-rows.mjs): the forced cells as the released guide's own fill.sh prints them over the translation 260f4365a0a6ff09… (all of the seat's roots in one cut). By AI agents, Wed Nov 11 2026. No macro, syntax, notation, axiom, sorry.
-/
import Derived.Test.YtcecolmpnllfhaaDoorChecked
import GoSem.Claim
import GoSem.ClaimJoined
import GoSem.ClaimMapViews
import Derived.JoinedTies
import Derived.KernelRfl
namespace Go.Proofs.YtcecolmpnllfhaaDoor
/- THE CELL 'sum', in the pinned program and in every row, IS THE sha256 OF THE DUMP (.gsa) THAT YtcecolmpnllfhaaDoorProg.lean LOADS. Nothing in Lean hashes anything: it is a label: what it is worth is what the hold of that sum in a sandbox is worth. -/
noncomputable def Tryd.pinned : Pinned := { name := "ytcecolmpnllfhaadoor", sum := "260f4365a0a6ff09cbb6f33e64185db2a42e134b753315aafeff975332f0ebb1", checked := Tryd.checked }
namespace Rows
def none {H : Type} : Left H := { results := [], args := [] }

/- WHAT THE LISTED PACKAGE-LEVEL VARIABLES READ AS WHEN THE CALL BEGINS. Each datum BY PROGRAM (the guide's laid-datum.mjs) off the statement by which the dump's own 'gosem.cut.vars' lays the variable. In a bare row this is a premise. The card (YtcecolmpnllfhaaDoorCards.lean) ties it to the program's text. -/
def laid_circa_years_leapRules {H : Type} : DataW H := .agg [.agg [.lit (.int .i64 4), .lit (.int .i64 1)], .agg [.lit (.int .i64 100), .lit (.int .i64 (-1))], .agg [.lit (.int .i64 400), .lit (.int .i64 1)]]

/-- 'circalaw04.YearsStart': WHATEVER THE INPUT: true; the input reads as it did. -/
def yearsStartSpec : ChangeSpec := { name := "yearsStart", fn := fun _ => fun
  | [d] => { results := [.lit (.bool true)], args := [d] }
  | _ => none }
def yearsStartRow : OpenClaim := { program := "ytcecolmpnllfhaadoor", sum := "260f4365a0a6ff09cbb6f33e64185db2a42e134b753315aafeff975332f0ebb1", func := "circa/circalaw04.YearsStart", spec := "yearsStart", unfollowed := true, recurses := true, named := ["circa/years.leapRules"], apart := false, laid := [("circa/years.leapRules", laid_circa_years_leapRules)] }
def YearsStartSaid : Prop := yearsStartRow.holds Tryd.pinned (OpenSpec.ofChange yearsStartSpec)

/-- ITS FALSE NEIGHBOUR: 'it returns false'. Refute it at one input. -/
def yearsStartWrong : ChangeSpec := { name := "yearsStart", fn := fun _ => fun
  | [d] => { results := [.lit (.bool false)], args := [d] }
  | _ => none }
def YearsStartWrongFalsely : Prop := yearsStartRow.holds Tryd.pinned (OpenSpec.ofChange yearsStartWrong)

/-- 'circalaw04.YearsOf': WHATEVER THE INPUT: true; the input reads as it did. -/
def yearsOfSpec : ChangeSpec := { name := "yearsOf", fn := fun _ => fun
  | [d] => { results := [.lit (.bool true)], args := [d] }
  | _ => none }
def yearsOfRow : OpenClaim := { program := "ytcecolmpnllfhaadoor", sum := "260f4365a0a6ff09cbb6f33e64185db2a42e134b753315aafeff975332f0ebb1", func := "circa/circalaw04.YearsOf", spec := "yearsOf", unfollowed := true, recurses := true, named := ["circa/years.leapRules"], apart := false, laid := [("circa/years.leapRules", laid_circa_years_leapRules)] }
def YearsOfSaid : Prop := yearsOfRow.holds Tryd.pinned (OpenSpec.ofChange yearsOfSpec)

/-- ITS FALSE NEIGHBOUR: 'it returns false'. Refute it at one input. -/
def yearsOfWrong : ChangeSpec := { name := "yearsOf", fn := fun _ => fun
  | [d] => { results := [.lit (.bool false)], args := [d] }
  | _ => none }
def YearsOfWrongFalsely : Prop := yearsOfRow.holds Tryd.pinned (OpenSpec.ofChange yearsOfWrong)

/-- 'circalaw04.YearsLeaps': WHATEVER THE INPUT: true; the input reads as it did. -/
def yearsLeapsSpec : ChangeSpec := { name := "yearsLeaps", fn := fun _ => fun
  | [d1, d2, d3] => { results := [.lit (.bool true)], args := [d1, d2, d3] }
  | _ => none }
def yearsLeapsRow : OpenClaim := { program := "ytcecolmpnllfhaadoor", sum := "260f4365a0a6ff09cbb6f33e64185db2a42e134b753315aafeff975332f0ebb1", func := "circa/circalaw04.YearsLeaps", spec := "yearsLeaps", unfollowed := true, recurses := true, named := ["circa/years.leapRules"], apart := false, laid := [("circa/years.leapRules", laid_circa_years_leapRules)] }
def YearsLeapsSaid : Prop := yearsLeapsRow.holds Tryd.pinned (OpenSpec.ofChange yearsLeapsSpec)

/-- ITS FALSE NEIGHBOUR: 'it returns false'. Refute it at one input. -/
def yearsLeapsWrong : ChangeSpec := { name := "yearsLeaps", fn := fun _ => fun
  | [d1, d2, d3] => { results := [.lit (.bool false)], args := [d1, d2, d3] }
  | _ => none }
def YearsLeapsWrongFalsely : Prop := yearsLeapsRow.holds Tryd.pinned (OpenSpec.ofChange yearsLeapsWrong)

/-- 'circalaw04.YearsKnown': WHATEVER THE INPUT: true; the input reads as it did. -/
def yearsKnownSpec : ChangeSpec := { name := "yearsKnown", fn := fun _ => fun
  | [] => { results := [.lit (.bool true)], args := [] }
  | _ => none }
def yearsKnownRow : OpenClaim := { program := "ytcecolmpnllfhaadoor", sum := "260f4365a0a6ff09cbb6f33e64185db2a42e134b753315aafeff975332f0ebb1", func := "circa/circalaw04.YearsKnown", spec := "yearsKnown", unfollowed := true, recurses := true, named := ["circa/years.leapRules"], apart := false, laid := [("circa/years.leapRules", laid_circa_years_leapRules)] }
def YearsKnownSaid : Prop := yearsKnownRow.holds Tryd.pinned (OpenSpec.ofChange yearsKnownSpec)

/-- ITS FALSE NEIGHBOUR: 'it returns false'. Refute it at one input. -/
def yearsKnownWrong : ChangeSpec := { name := "yearsKnown", fn := fun _ => fun
  | [] => { results := [.lit (.bool false)], args := [] }
  | _ => none }
def YearsKnownWrongFalsely : Prop := yearsKnownRow.holds Tryd.pinned (OpenSpec.ofChange yearsKnownWrong)

/- THE SECOND FORM. 'bulk': how many values and letters a reading holds, each counted each time it is reached (what is shared counts as often as it is met; a slice's spare places count too). A statement '..UptoSaid' is the law's where the arguments, and the package variables that the reading takes, are together of bulk at most 1048576: NARROWER than '..Said'. Prove '..Said' where nothing that the law and all that it calls make is longer than what came in: it says more and counts as full. Else prove '..UptoSaid'. A law counts once. -/
mutual
def uptoBulk {H : Type} : DataW H → Nat
  | .lit (.string bytes) => bytes.length + 1
  | .lit _ => 1
  | .nil => 1
  | .ptr d => uptoBulk d + 1
  | .slice elems spare => uptoBulkAll elems + uptoBulkAll spare + 1
  | .agg parts => uptoBulkAll parts + 1
  | .iface _ d => uptoBulk d + 1
  | .map entries => uptoBulkEntries entries + 1
  | .held _ => 1
def uptoBulkAll {H : Type} : List (DataW H) → Nat
  | [] => 0
  | d :: r => uptoBulk d + uptoBulkAll r
def uptoBulkEntries {H : Type} : List (Lit × DataW H) → Nat
  | [] => 0
  | x :: r => uptoBulkEntry x + uptoBulkEntries r
def uptoBulkEntry {H : Type} : Lit × DataW H → Nat
  | (.string bytes, d) => bytes.length + uptoBulk d + 1
  | (_, d) => uptoBulk d + 1
 end
def uptoSmall : (H : Type) → List (DataW H) → Bool := fun _ ds => decide (uptoBulkAll ds ≤ 1048576)
def OpenSpec.upto (s : _root_.Go.ChangeSpec) : _root_.Go.OpenSpec := { _root_.Go.OpenSpec.ofChange s with cond := some uptoSmall }

/-- 'circalaw04.YearsStart', WHERE WHAT IT READS IS OF BULK AT MOST 1048576: true; the input reads as it did. -/
def yearsStartUptoRow : OpenClaim := { program := "ytcecolmpnllfhaadoor", sum := "260f4365a0a6ff09cbb6f33e64185db2a42e134b753315aafeff975332f0ebb1", func := "circa/circalaw04.YearsStart", spec := "yearsStart", unfollowed := true, recurses := true, named := ["circa/years.leapRules"], apart := false, laid := [("circa/years.leapRules", laid_circa_years_leapRules)], narrowed := true }
def YearsStartUptoSaid : Prop := yearsStartUptoRow.holds Tryd.pinned (OpenSpec.upto yearsStartSpec)

/-- 'circalaw04.YearsOf', WHERE WHAT IT READS IS OF BULK AT MOST 1048576: true; the input reads as it did. -/
def yearsOfUptoRow : OpenClaim := { program := "ytcecolmpnllfhaadoor", sum := "260f4365a0a6ff09cbb6f33e64185db2a42e134b753315aafeff975332f0ebb1", func := "circa/circalaw04.YearsOf", spec := "yearsOf", unfollowed := true, recurses := true, named := ["circa/years.leapRules"], apart := false, laid := [("circa/years.leapRules", laid_circa_years_leapRules)], narrowed := true }
def YearsOfUptoSaid : Prop := yearsOfUptoRow.holds Tryd.pinned (OpenSpec.upto yearsOfSpec)

/-- 'circalaw04.YearsLeaps', WHERE WHAT IT READS IS OF BULK AT MOST 1048576: true; the input reads as it did. -/
def yearsLeapsUptoRow : OpenClaim := { program := "ytcecolmpnllfhaadoor", sum := "260f4365a0a6ff09cbb6f33e64185db2a42e134b753315aafeff975332f0ebb1", func := "circa/circalaw04.YearsLeaps", spec := "yearsLeaps", unfollowed := true, recurses := true, named := ["circa/years.leapRules"], apart := false, laid := [("circa/years.leapRules", laid_circa_years_leapRules)], narrowed := true }
def YearsLeapsUptoSaid : Prop := yearsLeapsUptoRow.holds Tryd.pinned (OpenSpec.upto yearsLeapsSpec)

/-- 'circalaw04.YearsKnown', WHERE WHAT IT READS IS OF BULK AT MOST 1048576: true; the input reads as it did. -/
def yearsKnownUptoRow : OpenClaim := { program := "ytcecolmpnllfhaadoor", sum := "260f4365a0a6ff09cbb6f33e64185db2a42e134b753315aafeff975332f0ebb1", func := "circa/circalaw04.YearsKnown", spec := "yearsKnown", unfollowed := true, recurses := true, named := ["circa/years.leapRules"], apart := false, laid := [("circa/years.leapRules", laid_circa_years_leapRules)], narrowed := true }
def YearsKnownUptoSaid : Prop := yearsKnownUptoRow.holds Tryd.pinned (OpenSpec.upto yearsKnownSpec)

end Rows
end Go.Proofs.YtcecolmpnllfhaaDoor
