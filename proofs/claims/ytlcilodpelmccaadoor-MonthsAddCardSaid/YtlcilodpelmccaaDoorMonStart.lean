/- The table of the lengths of months, cell for cell, where a row's list has it; what the start has laid. -/
import Derived.Test.YtlcilodpelmccaaDoorYStart
import Derived.Test.YtlcilodpelmccaaDoorMonP
namespace Go.Proofs.YtlcilodpelmccaaDoor
open Go.ChangeShapes Go.WideShapes Go.ChangeAt Go.RowKit Go.Lib

theorem gLens : Tryd.prog.globalNamed "circa/months.lengths" = some 0 := by kernel_rfl
theorem tLens : (Tryd.prog.globals[0]?).map (·.type) = some 56 := by kernel_rfl
theorem c1L : Tryd.prog.cellsOf 3 = 1 := by kernel_rfl
theorem c12L : Tryd.prog.cellsOf 56 = 12 := by kernel_rfl
theorem startM_of_reads {W : World} (h : VarReads Tryd.prog W "circa/months.lengths" Rows.laid_circa_months_lengths) : StartM W :=
  block_of_reads gLens tLens (cs0 := lens) (fun hd => Lib.cells_of_tab (k := .i64) (zs := [31, 28, 31, 30, 31, 30, 31, 31, 30, 31, 30, 31]) Tryd.underlying56 Tryd.underlying3 c1L c12L hd) h
theorem start_of_laid {W : World} {l : List (String × DataW Unit)} (hp : (l.all fun x => x.2.handleName?.isNone) = true) (h1 : ("circa/years.leapRules", Rows.laid_circa_years_leapRules) ∈ l) (h2 : ("circa/months.lengths", Rows.laid_circa_months_lengths) ∈ l)
    (h : laidMetH Tryd.prog l W) : Start W := ⟨startY_of_reads (reads_of_laid hp h h1), startM_of_reads (reads_of_laid hp h h2)⟩
end Go.Proofs.YtlcilodpelmccaaDoor
