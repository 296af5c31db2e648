/-
  NARROWER THAN 'FOR EVERY INPUT', by the rows' own cells (each row's printed sentence says how): SeasonsRun: laid · SeasonsOf: laid · SeasonsParts: laid · SeasonsKnown: laid.
  DERIVED. THE GIVEN ROWS OF THIS SEAT. 4 by the template 'for every input the law returns true; each argument reads behind the call as it read before'; 0 by the template 'total and deterministic' (their statements: YtcabcmlnmpfhkaaDoorTotals.lean).
  GIVEN WITH THE SEED: the statements are not yours to turn. If you find one false, say at which input.
  Laid BY PROGRAM, IN A SANDBOX (cutbox-rows.mjs): the forced cells as the released guide's own fill.sh prints them over the translation b678e0858f6104c0… (all of the seat's roots in one cut). By AI agents, Wed Nov 11 2026. No macro, syntax, notation, axiom, sorry.
-/
import Derived.Test.YtcabcmlnmpfhkaaDoorChecked
import GoSem.Claim
import GoSem.ClaimJoined
import GoSem.ClaimMapViews
import Derived.JoinedTies
import Derived.KernelRfl
namespace Go.Proofs.YtcabcmlnmpfhkaaDoor
/- THE CELL 'sum', in the pinned program and in every row, IS THE sha256 OF THE DUMP (.gsa) THAT YtcabcmlnmpfhkaaDoorProg.lean LOADS. Nothing in Lean hashes anything: it is a label: what it is worth is what the hold of that sum in a sandbox is worth. -/
noncomputable def Tryd.pinned : Pinned := { name := "ytcabcmlnmpfhkaadoor", sum := "b678e0858f6104c027c53c18931fae383f433b8e9dd5190a3ccfc256f8512921", checked := Tryd.checked }
namespace Rows
def none {H : Type} : Left H := { results := [], args := [] }

/- WHAT THE LISTED PACKAGE-LEVEL VARIABLES READ AS WHEN THE CALL BEGINS. Each datum BY PROGRAM (the guide's laid-datum.mjs) off the statement by which the dump's own 'gosem.cut.vars' lays the variable. In a bare row this is a premise. The card (YtcabcmlnmpfhkaaDoorCards.lean) ties it to the program's text. -/
def laid_circa_years_leapRules {H : Type} : DataW H := .agg [.agg [.lit (.int .i64 4), .lit (.int .i64 1)], .agg [.lit (.int .i64 100), .lit (.int .i64 (-1))], .agg [.lit (.int .i64 400), .lit (.int .i64 1)]]
def laid_circa_months_lengths {H : Type} : DataW H := .agg [.lit (.int .i64 31), .lit (.int .i64 28), .lit (.int .i64 31), .lit (.int .i64 30), .lit (.int .i64 31), .lit (.int .i64 30), .lit (.int .i64 31), .lit (.int .i64 31), .lit (.int .i64 30), .lit (.int .i64 31), .lit (.int .i64 30), .lit (.int .i64 31)]
def laid_circa_seasons_parts {H : Type} : DataW H := .agg [.agg [.lit (.int .i64 3), .lit (.int .i64 3)], .agg [.lit (.int .i64 6), .lit (.int .i64 3)], .agg [.lit (.int .i64 9), .lit (.int .i64 3)], .agg [.lit (.int .i64 12), .lit (.int .i64 3)], .agg [.lit (.int .i64 3), .lit (.int .i64 3)], .agg [.lit (.int .i64 6), .lit (.int .i64 3)], .agg [.lit (.int .i64 9), .lit (.int .i64 3)], .agg [.lit (.int .i64 12), .lit (.int .i64 3)], .agg [.lit (.int .i64 9), .lit (.int .i64 3)], .agg [.lit (.int .i64 12), .lit (.int .i64 3)], .agg [.lit (.int .i64 3), .lit (.int .i64 3)], .agg [.lit (.int .i64 6), .lit (.int .i64 3)], .agg [.lit (.int .i64 1), .lit (.int .i64 3)], .agg [.lit (.int .i64 4), .lit (.int .i64 3)], .agg [.lit (.int .i64 7), .lit (.int .i64 3)], .agg [.lit (.int .i64 10), .lit (.int .i64 3)], .agg [.lit (.int .i64 1), .lit (.int .i64 4)], .agg [.lit (.int .i64 5), .lit (.int .i64 4)], .agg [.lit (.int .i64 9), .lit (.int .i64 4)], .agg [.lit (.int .i64 1), .lit (.int .i64 6)], .agg [.lit (.int .i64 7), .lit (.int .i64 6)]]

/-- 'circalaw07.SeasonsRun': WHATEVER THE INPUT: true; the input reads as it did. -/
def seasonsRunSpec : ChangeSpec := { name := "seasonsRun", fn := fun _ => fun
  | [d1, d2] => { results := [.lit (.bool true)], args := [d1, d2] }
  | _ => none }
def seasonsRunRow : OpenClaim := { program := "ytcabcmlnmpfhkaadoor", sum := "b678e0858f6104c027c53c18931fae383f433b8e9dd5190a3ccfc256f8512921", func := "circa/circalaw07.SeasonsRun", spec := "seasonsRun", unfollowed := true, recurses := true, named := ["circa/seasons.parts", "circa/years.leapRules", "circa/months.lengths"], apart := false, laid := [("circa/years.leapRules", laid_circa_years_leapRules), ("circa/months.lengths", laid_circa_months_lengths), ("circa/seasons.parts", laid_circa_seasons_parts)] }
def SeasonsRunSaid : Prop := seasonsRunRow.holds Tryd.pinned (OpenSpec.ofChange seasonsRunSpec)

/-- ITS FALSE NEIGHBOUR: 'it returns false'. Refute it at one input. -/
def seasonsRunWrong : ChangeSpec := { name := "seasonsRun", fn := fun _ => fun
  | [d1, d2] => { results := [.lit (.bool false)], args := [d1, d2] }
  | _ => none }
def SeasonsRunWrongFalsely : Prop := seasonsRunRow.holds Tryd.pinned (OpenSpec.ofChange seasonsRunWrong)

/-- 'circalaw07.SeasonsOf': WHATEVER THE INPUT: true; the input reads as it did. -/
def seasonsOfSpec : ChangeSpec := { name := "seasonsOf", fn := fun _ => fun
  | [d1, d2] => { results := [.lit (.bool true)], args := [d1, d2] }
  | _ => none }
def seasonsOfRow : OpenClaim := { program := "ytcabcmlnmpfhkaadoor", sum := "b678e0858f6104c027c53c18931fae383f433b8e9dd5190a3ccfc256f8512921", func := "circa/circalaw07.SeasonsOf", spec := "seasonsOf", unfollowed := true, recurses := true, named := ["circa/years.leapRules", "circa/months.lengths", "circa/seasons.parts"], apart := false, laid := [("circa/years.leapRules", laid_circa_years_leapRules), ("circa/months.lengths", laid_circa_months_lengths), ("circa/seasons.parts", laid_circa_seasons_parts)] }
def SeasonsOfSaid : Prop := seasonsOfRow.holds Tryd.pinned (OpenSpec.ofChange seasonsOfSpec)

/-- ITS FALSE NEIGHBOUR: 'it returns false'. Refute it at one input. -/
def seasonsOfWrong : ChangeSpec := { name := "seasonsOf", fn := fun _ => fun
  | [d1, d2] => { results := [.lit (.bool false)], args := [d1, d2] }
  | _ => none }
def SeasonsOfWrongFalsely : Prop := seasonsOfRow.holds Tryd.pinned (OpenSpec.ofChange seasonsOfWrong)

/-- 'circalaw07.SeasonsParts': WHATEVER THE INPUT: true; the input reads as it did. -/
def seasonsPartsSpec : ChangeSpec := { name := "seasonsParts", fn := fun _ => fun
  | [d] => { results := [.lit (.bool true)], args := [d] }
  | _ => none }
def seasonsPartsRow : OpenClaim := { program := "ytcabcmlnmpfhkaadoor", sum := "b678e0858f6104c027c53c18931fae383f433b8e9dd5190a3ccfc256f8512921", func := "circa/circalaw07.SeasonsParts", spec := "seasonsParts", unfollowed := true, recurses := true, named := ["circa/seasons.parts", "circa/years.leapRules", "circa/months.lengths"], apart := false, laid := [("circa/years.leapRules", laid_circa_years_leapRules), ("circa/months.lengths", laid_circa_months_lengths), ("circa/seasons.parts", laid_circa_seasons_parts)] }
def SeasonsPartsSaid : Prop := seasonsPartsRow.holds Tryd.pinned (OpenSpec.ofChange seasonsPartsSpec)

/-- ITS FALSE NEIGHBOUR: 'it returns false'. Refute it at one input. -/
def seasonsPartsWrong : ChangeSpec := { name := "seasonsParts", fn := fun _ => fun
  | [d] => { results := [.lit (.bool false)], args := [d] }
  | _ => none }
def SeasonsPartsWrongFalsely : Prop := seasonsPartsRow.holds Tryd.pinned (OpenSpec.ofChange seasonsPartsWrong)

/-- 'circalaw07.SeasonsKnown': WHATEVER THE INPUT: true; the input reads as it did. -/
def seasonsKnownSpec : ChangeSpec := { name := "seasonsKnown", fn := fun _ => fun
  | [] => { results := [.lit (.bool true)], args := [] }
  | _ => none }
def seasonsKnownRow : OpenClaim := { program := "ytcabcmlnmpfhkaadoor", sum := "b678e0858f6104c027c53c18931fae383f433b8e9dd5190a3ccfc256f8512921", func := "circa/circalaw07.SeasonsKnown", spec := "seasonsKnown", unfollowed := true, recurses := true, named := ["circa/seasons.parts", "circa/years.leapRules", "circa/months.lengths"], apart := false, laid := [("circa/years.leapRules", laid_circa_years_leapRules), ("circa/months.lengths", laid_circa_months_lengths), ("circa/seasons.parts", laid_circa_seasons_parts)] }
def SeasonsKnownSaid : Prop := seasonsKnownRow.holds Tryd.pinned (OpenSpec.ofChange seasonsKnownSpec)

/-- ITS FALSE NEIGHBOUR: 'it returns false'. Refute it at one input. -/
def seasonsKnownWrong : ChangeSpec := { name := "seasonsKnown", fn := fun _ => fun
  | [] => { results := [.lit (.bool false)], args := [] }
  | _ => none }
def SeasonsKnownWrongFalsely : Prop := seasonsKnownRow.holds Tryd.pinned (OpenSpec.ofChange seasonsKnownWrong)

/- THE SECOND FORM. 'bulk': how many values and letters a reading holds, each counted each time it is reached (what is shared counts as often as it is met; a slice's spare places count too). A statement '..UptoSaid' is the law's where the arguments, and the package variables that the reading takes, are together of bulk at most 1048576: NARROWER than '..Said'. Prove '..Said' where nothing that the law and all that it calls make is longer than what came in: it says more and counts as full. Else prove '..UptoSaid'. A law counts once. -/
mutual
def uptoBulk {H : Type} : DataW H → Nat
  | .lit (.string bytes) => bytes.length + 1
  | .lit _ => 1
  | .nil => 1
  | .ptr d => uptoBulk d + 1
  | .slice elems spare => uptoBulkAll elems + uptoBulkAll spare + 1
  | .agg parts => uptoBulkAll parts + 1
  | .iface _ d => uptoBulk d + 1
  | .map entries => uptoBulkEntries entries + 1
  | .held _ => 1
def uptoBulkAll {H : Type} : List (DataW H) → Nat
  | [] => 0
  | d :: r => uptoBulk d + uptoBulkAll r
def uptoBulkEntries {H : Type} : List (Lit × DataW H) → Nat
  | [] => 0
  | x :: r => uptoBulkEntry x + uptoBulkEntries r
def uptoBulkEntry {H : Type} : Lit × DataW H → Nat
  | (.string bytes, d) => bytes.length + uptoBulk d + 1
  | (_, d) => uptoBulk d + 1
 end
def uptoSmall : (H : Type) → List (DataW H) → Bool := fun _ ds => decide (uptoBulkAll ds ≤ 1048576)
def OpenSpec.upto (s : _root_.Go.ChangeSpec) : _root_.Go.OpenSpec := { _root_.Go.OpenSpec.ofChange s with cond := some uptoSmall }

/-- 'circalaw07.SeasonsRun', WHERE WHAT IT READS IS OF BULK AT MOST 1048576: true; the input reads as it did. -/
def seasonsRunUptoRow : OpenClaim := { program := "ytcabcmlnmpfhkaadoor", sum := "b678e0858f6104c027c53c18931fae383f433b8e9dd5190a3ccfc256f8512921", func := "circa/circalaw07.SeasonsRun", spec := "seasonsRun", unfollowed := true, recurses := true, named := ["circa/seasons.parts", "circa/years.leapRules", "circa/months.lengths"], apart := false, laid := [("circa/years.leapRules", laid_circa_years_leapRules), ("circa/months.lengths", laid_circa_months_lengths), ("circa/seasons.parts", laid_circa_seasons_parts)], narrowed := true }
def SeasonsRunUptoSaid : Prop := seasonsRunUptoRow.holds Tryd.pinned (OpenSpec.upto seasonsRunSpec)

/-- 'circalaw07.SeasonsOf', WHERE WHAT IT READS IS OF BULK AT MOST 1048576: true; the input reads as it did. -/
def seasonsOfUptoRow : OpenClaim := { program := "ytcabcmlnmpfhkaadoor", sum := "b678e0858f6104c027c53c18931fae383f433b8e9dd5190a3ccfc256f8512921", func := "circa/circalaw07.SeasonsOf", spec := "seasonsOf", unfollowed := true, recurses := true, named := ["circa/years.leapRules", "circa/months.lengths", "circa/seasons.parts"], apart := false, laid := [("circa/years.leapRules", laid_circa_years_leapRules), ("circa/months.lengths", laid_circa_months_lengths), ("circa/seasons.parts", laid_circa_seasons_parts)], narrowed := true }
def SeasonsOfUptoSaid : Prop := seasonsOfUptoRow.holds Tryd.pinned (OpenSpec.upto seasonsOfSpec)

/-- 'circalaw07.SeasonsParts', WHERE WHAT IT READS IS OF BULK AT MOST 1048576: true; the input reads as it did. -/
def seasonsPartsUptoRow : OpenClaim := { program := "ytcabcmlnmpfhkaadoor", sum := "b678e0858f6104c027c53c18931fae383f433b8e9dd5190a3ccfc256f8512921", func := "circa/circalaw07.SeasonsParts", spec := "seasonsParts", unfollowed := true, recurses := true, named := ["circa/seasons.parts", "circa/years.leapRules", "circa/months.lengths"], apart := false, laid := [("circa/years.leapRules", laid_circa_years_leapRules), ("circa/months.lengths", laid_circa_months_lengths), ("circa/seasons.parts", laid_circa_seasons_parts)], narrowed := true }
def SeasonsPartsUptoSaid : Prop := seasonsPartsUptoRow.holds Tryd.pinned (OpenSpec.upto seasonsPartsSpec)

/-- 'circalaw07.SeasonsKnown', WHERE WHAT IT READS IS OF BULK AT MOST 1048576: true; the input reads as it did. -/
def seasonsKnownUptoRow : OpenClaim := { program := "ytcabcmlnmpfhkaadoor", sum := "b678e0858f6104c027c53c18931fae383f433b8e9dd5190a3ccfc256f8512921", func := "circa/circalaw07.SeasonsKnown", spec := "seasonsKnown", unfollowed := true, recurses := true, named := ["circa/seasons.parts", "circa/years.leapRules", "circa/months.lengths"], apart := false, laid := [("circa/years.leapRules", laid_circa_years_leapRules), ("circa/months.lengths", laid_circa_months_lengths), ("circa/seasons.parts", laid_circa_seasons_parts)], narrowed := true }
def SeasonsKnownUptoSaid : Prop := seasonsKnownUptoRow.holds Tryd.pinned (OpenSpec.upto seasonsKnownSpec)

end Rows
end Go.Proofs.YtcabcmlnmpfhkaaDoor
