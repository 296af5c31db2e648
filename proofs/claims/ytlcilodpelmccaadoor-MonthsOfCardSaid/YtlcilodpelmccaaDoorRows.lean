/-
  NARROWER THAN 'FOR EVERY INPUT', by the rows' own cells (each row's printed sentence says how): MonthsDays: laid · MonthsOf: laid · MonthsAdd: laid · MonthsBetween: laid · MonthsKnown: laid.
  DERIVED. THE GIVEN ROWS OF THIS SEAT. 5 by the template 'for every input the law returns true; each argument reads behind the call as it read before'; 0 by the template 'total and deterministic' (their statements: YtlcilodpelmccaaDoorTotals.lean).
  GIVEN WITH THE SEED: the statements are not yours to turn. If you find one false, say at which input.
  Laid BY PROGRAM, IN A SANDBOX (cutbox-rows.mjs): the forced cells as the released guide's own fill.sh prints them over the translation 355f28c9ed34e4cc… (all of the seat's roots in one cut). By AI agents, Wed Nov 11 2026. No macro, syntax, notation, axiom, sorry.
-/
import Derived.Test.YtlcilodpelmccaaDoorChecked
import GoSem.Claim
import GoSem.ClaimJoined
import GoSem.ClaimMapViews
import Derived.JoinedTies
import Derived.KernelRfl
namespace Go.Proofs.YtlcilodpelmccaaDoor
/- THE CELL 'sum', in the pinned program and in every row, IS THE sha256 OF THE DUMP (.gsa) THAT YtlcilodpelmccaaDoorProg.lean LOADS. Nothing in Lean hashes anything: it is a label: what it is worth is what the hold of that sum in a sandbox is worth. -/
noncomputable def Tryd.pinned : Pinned := { name := "ytlcilodpelmccaadoor", sum := "355f28c9ed34e4cc048c4421f37cd86c4645efb5abd9fca63c61891fd7767ec9", checked := Tryd.checked }
namespace Rows
def none {H : Type} : Left H := { results := [], args := [] }

/- WHAT THE LISTED PACKAGE-LEVEL VARIABLES READ AS WHEN THE CALL BEGINS. Each datum BY PROGRAM (the guide's laid-datum.mjs) off the statement by which the dump's own 'gosem.cut.vars' lays the variable. In a bare row this is a premise. The card (YtlcilodpelmccaaDoorCards.lean) ties it to the program's text. -/
def laid_circa_years_leapRules {H : Type} : DataW H := .agg [.agg [.lit (.int .i64 4), .lit (.int .i64 1)], .agg [.lit (.int .i64 100), .lit (.int .i64 (-1))], .agg [.lit (.int .i64 400), .lit (.int .i64 1)]]
def laid_circa_months_lengths {H : Type} : DataW H := .agg [.lit (.int .i64 31), .lit (.int .i64 28), .lit (.int .i64 31), .lit (.int .i64 30), .lit (.int .i64 31), .lit (.int .i64 30), .lit (.int .i64 31), .lit (.int .i64 31), .lit (.int .i64 30), .lit (.int .i64 31), .lit (.int .i64 30), .lit (.int .i64 31)]

/-- 'circalaw05.MonthsDays': WHATEVER THE INPUT: true; the input reads as it did. -/
def monthsDaysSpec : ChangeSpec := { name := "monthsDays", fn := fun _ => fun
  | [d1, d2] => { results := [.lit (.bool true)], args := [d1, d2] }
  | _ => none }
def monthsDaysRow : OpenClaim := { program := "ytlcilodpelmccaadoor", sum := "355f28c9ed34e4cc048c4421f37cd86c4645efb5abd9fca63c61891fd7767ec9", func := "circa/circalaw05.MonthsDays", spec := "monthsDays", unfollowed := true, recurses := true, named := ["circa/months.lengths", "circa/years.leapRules"], apart := false, laid := [("circa/years.leapRules", laid_circa_years_leapRules), ("circa/months.lengths", laid_circa_months_lengths)] }
def MonthsDaysSaid : Prop := monthsDaysRow.holds Tryd.pinned (OpenSpec.ofChange monthsDaysSpec)

/-- ITS FALSE NEIGHBOUR: 'it returns false'. Refute it at one input. -/
def monthsDaysWrong : ChangeSpec := { name := "monthsDays", fn := fun _ => fun
  | [d1, d2] => { results := [.lit (.bool false)], args := [d1, d2] }
  | _ => none }
def MonthsDaysWrongFalsely : Prop := monthsDaysRow.holds Tryd.pinned (OpenSpec.ofChange monthsDaysWrong)

/-- 'circalaw05.MonthsOf': WHATEVER THE INPUT: true; the input reads as it did. -/
def monthsOfSpec : ChangeSpec := { name := "monthsOf", fn := fun _ => fun
  | [d] => { results := [.lit (.bool true)], args := [d] }
  | _ => none }
def monthsOfRow : OpenClaim := { program := "ytlcilodpelmccaadoor", sum := "355f28c9ed34e4cc048c4421f37cd86c4645efb5abd9fca63c61891fd7767ec9", func := "circa/circalaw05.MonthsOf", spec := "monthsOf", unfollowed := true, recurses := true, named := ["circa/years.leapRules", "circa/months.lengths"], apart := false, laid := [("circa/years.leapRules", laid_circa_years_leapRules), ("circa/months.lengths", laid_circa_months_lengths)] }
def MonthsOfSaid : Prop := monthsOfRow.holds Tryd.pinned (OpenSpec.ofChange monthsOfSpec)

/-- ITS FALSE NEIGHBOUR: 'it returns false'. Refute it at one input. -/
def monthsOfWrong : ChangeSpec := { name := "monthsOf", fn := fun _ => fun
  | [d] => { results := [.lit (.bool false)], args := [d] }
  | _ => none }
def MonthsOfWrongFalsely : Prop := monthsOfRow.holds Tryd.pinned (OpenSpec.ofChange monthsOfWrong)

/-- 'circalaw05.MonthsAdd': WHATEVER THE INPUT: true; the input reads as it did. -/
def monthsAddSpec : ChangeSpec := { name := "monthsAdd", fn := fun _ => fun
  | [d1, d2, d3] => { results := [.lit (.bool true)], args := [d1, d2, d3] }
  | _ => none }
def monthsAddRow : OpenClaim := { program := "ytlcilodpelmccaadoor", sum := "355f28c9ed34e4cc048c4421f37cd86c4645efb5abd9fca63c61891fd7767ec9", func := "circa/circalaw05.MonthsAdd", spec := "monthsAdd", unfollowed := true, recurses := true, named := ["circa/months.lengths", "circa/years.leapRules"], apart := false, laid := [("circa/years.leapRules", laid_circa_years_leapRules), ("circa/months.lengths", laid_circa_months_lengths)] }
def MonthsAddSaid : Prop := monthsAddRow.holds Tryd.pinned (OpenSpec.ofChange monthsAddSpec)

/-- ITS FALSE NEIGHBOUR: 'it returns false'. Refute it at one input. -/
def monthsAddWrong : ChangeSpec := { name := "monthsAdd", fn := fun _ => fun
  | [d1, d2, d3] => { results := [.lit (.bool false)], args := [d1, d2, d3] }
  | _ => none }
def MonthsAddWrongFalsely : Prop := monthsAddRow.holds Tryd.pinned (OpenSpec.ofChange monthsAddWrong)

/-- 'circalaw05.MonthsBetween': WHATEVER THE INPUT: true; the input reads as it did. -/
def monthsBetweenSpec : ChangeSpec := { name := "monthsBetween", fn := fun _ => fun
  | [d] => { results := [.lit (.bool true)], args := [d] }
  | _ => none }
def monthsBetweenRow : OpenClaim := { program := "ytlcilodpelmccaadoor", sum := "355f28c9ed34e4cc048c4421f37cd86c4645efb5abd9fca63c61891fd7767ec9", func := "circa/circalaw05.MonthsBetween", spec := "monthsBetween", unfollowed := true, recurses := true, named := ["circa/months.lengths", "circa/years.leapRules"], apart := false, laid := [("circa/years.leapRules", laid_circa_years_leapRules), ("circa/months.lengths", laid_circa_months_lengths)] }
def MonthsBetweenSaid : Prop := monthsBetweenRow.holds Tryd.pinned (OpenSpec.ofChange monthsBetweenSpec)

/-- ITS FALSE NEIGHBOUR: 'it returns false'. Refute it at one input. -/
def monthsBetweenWrong : ChangeSpec := { name := "monthsBetween", fn := fun _ => fun
  | [d] => { results := [.lit (.bool false)], args := [d] }
  | _ => none }
def MonthsBetweenWrongFalsely : Prop := monthsBetweenRow.holds Tryd.pinned (OpenSpec.ofChange monthsBetweenWrong)

/-- 'circalaw05.MonthsKnown': WHATEVER THE INPUT: true; the input reads as it did. -/
def monthsKnownSpec : ChangeSpec := { name := "monthsKnown", fn := fun _ => fun
  | [] => { results := [.lit (.bool true)], args := [] }
  | _ => none }
def monthsKnownRow : OpenClaim := { program := "ytlcilodpelmccaadoor", sum := "355f28c9ed34e4cc048c4421f37cd86c4645efb5abd9fca63c61891fd7767ec9", func := "circa/circalaw05.MonthsKnown", spec := "monthsKnown", unfollowed := true, recurses := true, named := ["circa/years.leapRules", "circa/months.lengths"], apart := false, laid := [("circa/years.leapRules", laid_circa_years_leapRules), ("circa/months.lengths", laid_circa_months_lengths)] }
def MonthsKnownSaid : Prop := monthsKnownRow.holds Tryd.pinned (OpenSpec.ofChange monthsKnownSpec)

/-- ITS FALSE NEIGHBOUR: 'it returns false'. Refute it at one input. -/
def monthsKnownWrong : ChangeSpec := { name := "monthsKnown", fn := fun _ => fun
  | [] => { results := [.lit (.bool false)], args := [] }
  | _ => none }
def MonthsKnownWrongFalsely : Prop := monthsKnownRow.holds Tryd.pinned (OpenSpec.ofChange monthsKnownWrong)

/- THE SECOND FORM. 'bulk': how many values and letters a reading holds, each counted each time it is reached (what is shared counts as often as it is met; a slice's spare places count too). A statement '..UptoSaid' is the law's where the arguments, and the package variables that the reading takes, are together of bulk at most 1048576: NARROWER than '..Said'. Prove '..Said' where nothing that the law and all that it calls make is longer than what came in: it says more and counts as full. Else prove '..UptoSaid'. A law counts once. -/
mutual
def uptoBulk {H : Type} : DataW H → Nat
  | .lit (.string bytes) => bytes.length + 1
  | .lit _ => 1
  | .nil => 1
  | .ptr d => uptoBulk d + 1
  | .slice elems spare => uptoBulkAll elems + uptoBulkAll spare + 1
  | .agg parts => uptoBulkAll parts + 1
  | .iface _ d => uptoBulk d + 1
  | .map entries => uptoBulkEntries entries + 1
  | .held _ => 1
def uptoBulkAll {H : Type} : List (DataW H) → Nat
  | [] => 0
  | d :: r => uptoBulk d + uptoBulkAll r
def uptoBulkEntries {H : Type} : List (Lit × DataW H) → Nat
  | [] => 0
  | x :: r => uptoBulkEntry x + uptoBulkEntries r
def uptoBulkEntry {H : Type} : Lit × DataW H → Nat
  | (.string bytes, d) => bytes.length + uptoBulk d + 1
  | (_, d) => uptoBulk d + 1
 end
def uptoSmall : (H : Type) → List (DataW H) → Bool := fun _ ds => decide (uptoBulkAll ds ≤ 1048576)
def OpenSpec.upto (s : _root_.Go.ChangeSpec) : _root_.Go.OpenSpec := { _root_.Go.OpenSpec.ofChange s with cond := some uptoSmall }

/-- 'circalaw05.MonthsDays', WHERE WHAT IT READS IS OF BULK AT MOST 1048576: true; the input reads as it did. -/
def monthsDaysUptoRow : OpenClaim := { program := "ytlcilodpelmccaadoor", sum := "355f28c9ed34e4cc048c4421f37cd86c4645efb5abd9fca63c61891fd7767ec9", func := "circa/circalaw05.MonthsDays", spec := "monthsDays", unfollowed := true, recurses := true, named := ["circa/months.lengths", "circa/years.leapRules"], apart := false, laid := [("circa/years.leapRules", laid_circa_years_leapRules), ("circa/months.lengths", laid_circa_months_lengths)], narrowed := true }
def MonthsDaysUptoSaid : Prop := monthsDaysUptoRow.holds Tryd.pinned (OpenSpec.upto monthsDaysSpec)

/-- 'circalaw05.MonthsOf', WHERE WHAT IT READS IS OF BULK AT MOST 1048576: true; the input reads as it did. -/
def monthsOfUptoRow : OpenClaim := { program := "ytlcilodpelmccaadoor", sum := "355f28c9ed34e4cc048c4421f37cd86c4645efb5abd9fca63c61891fd7767ec9", func := "circa/circalaw05.MonthsOf", spec := "monthsOf", unfollowed := true, recurses := true, named := ["circa/years.leapRules", "circa/months.lengths"], apart := false, laid := [("circa/years.leapRules", laid_circa_years_leapRules), ("circa/months.lengths", laid_circa_months_lengths)], narrowed := true }
def MonthsOfUptoSaid : Prop := monthsOfUptoRow.holds Tryd.pinned (OpenSpec.upto monthsOfSpec)

/-- 'circalaw05.MonthsAdd', WHERE WHAT IT READS IS OF BULK AT MOST 1048576: true; the input reads as it did. -/
def monthsAddUptoRow : OpenClaim := { program := "ytlcilodpelmccaadoor", sum := "355f28c9ed34e4cc048c4421f37cd86c4645efb5abd9fca63c61891fd7767ec9", func := "circa/circalaw05.MonthsAdd", spec := "monthsAdd", unfollowed := true, recurses := true, named := ["circa/months.lengths", "circa/years.leapRules"], apart := false, laid := [("circa/years.leapRules", laid_circa_years_leapRules), ("circa/months.lengths", laid_circa_months_lengths)], narrowed := true }
def MonthsAddUptoSaid : Prop := monthsAddUptoRow.holds Tryd.pinned (OpenSpec.upto monthsAddSpec)

/-- 'circalaw05.MonthsBetween', WHERE WHAT IT READS IS OF BULK AT MOST 1048576: true; the input reads as it did. -/
def monthsBetweenUptoRow : OpenClaim := { program := "ytlcilodpelmccaadoor", sum := "355f28c9ed34e4cc048c4421f37cd86c4645efb5abd9fca63c61891fd7767ec9", func := "circa/circalaw05.MonthsBetween", spec := "monthsBetween", unfollowed := true, recurses := true, named := ["circa/months.lengths", "circa/years.leapRules"], apart := false, laid := [("circa/years.leapRules", laid_circa_years_leapRules), ("circa/months.lengths", laid_circa_months_lengths)], narrowed := true }
def MonthsBetweenUptoSaid : Prop := monthsBetweenUptoRow.holds Tryd.pinned (OpenSpec.upto monthsBetweenSpec)

/-- 'circalaw05.MonthsKnown', WHERE WHAT IT READS IS OF BULK AT MOST 1048576: true; the input reads as it did. -/
def monthsKnownUptoRow : OpenClaim := { program := "ytlcilodpelmccaadoor", sum := "355f28c9ed34e4cc048c4421f37cd86c4645efb5abd9fca63c61891fd7767ec9", func := "circa/circalaw05.MonthsKnown", spec := "monthsKnown", unfollowed := true, recurses := true, named := ["circa/years.leapRules", "circa/months.lengths"], apart := false, laid := [("circa/years.leapRules", laid_circa_years_leapRules), ("circa/months.lengths", laid_circa_months_lengths)], narrowed := true }
def MonthsKnownUptoSaid : Prop := monthsKnownUptoRow.holds Tryd.pinned (OpenSpec.upto monthsKnownSpec)

end Rows
end Go.Proofs.YtlcilodpelmccaaDoor
