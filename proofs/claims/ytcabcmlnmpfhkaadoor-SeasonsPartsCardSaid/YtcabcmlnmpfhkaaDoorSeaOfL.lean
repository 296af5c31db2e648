/- The law on whatever day and code. -/
import Derived.Test.YtcabcmlnmpfhkaaDoorSeaPb
namespace Go.Proofs.YtcabcmlnmpfhkaaDoor.sea
open Go.RowKit

theorem codesL_in {d : Int} (h : yr (yrOf d) = true) : codesL d = codesN d 21 := if_pos h
end Go.Proofs.YtcabcmlnmpfhkaaDoor.sea
