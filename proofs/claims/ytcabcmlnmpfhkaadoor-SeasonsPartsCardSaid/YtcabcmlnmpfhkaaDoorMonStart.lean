/- The table of the lengths of months, cell for cell, where a row's list has it; what the start has laid. -/
import Derived.Test.YtcabcmlnmpfhkaaDoorYStart
import Derived.Test.YtcabcmlnmpfhkaaDoorMonP
namespace Go.Proofs.YtcabcmlnmpfhkaaDoor
open Go.ChangeShapes Go.WideShapes Go.ChangeAt Go.RowKit Go.Lib

theorem gLens : Tryd.prog.globalNamed "circa/months.lengths" = some 1 := by kernel_rfl
theorem tLens : (Tryd.prog.globals[1]?).map (·.type) = some 72 := by kernel_rfl
theorem c1L : Tryd.prog.cellsOf 3 = 1 := by kernel_rfl
theorem c12L : Tryd.prog.cellsOf 72 = 12 := by kernel_rfl
theorem startM_of_reads {W : World} (h : VarReads Tryd.prog W "circa/months.lengths" Rows.laid_circa_months_lengths) : StartM W :=
  block_of_reads gLens tLens (cs0 := lens) (fun hd => Lib.cells_of_tab (k := .i64) (zs := [31, 28, 31, 30, 31, 30, 31, 31, 30, 31, 30, 31]) Tryd.underlying72 Tryd.underlying3 c1L c12L hd) h
end Go.Proofs.YtcabcmlnmpfhkaaDoor
