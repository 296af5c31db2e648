/- The functions of package years, each with what it returns of whatever number. -/
import Derived.Test.YtcecolmpnllfhaaDoorYS
namespace Go.Proofs.YtcecolmpnllfhaaDoor
open Go.RowKit

theorem check_any (y : Int) (w : World) (_ : Start w) (_ : -9223372036854775808 ≤ y) (_ : y ≤ 9223372036854775807) : Calls Tryd.prog 13 #[.int .i64 y] w fun e w' => e = .returned (.int .i64 (yE y)) ∧ Below w.heap.size w w' := (qcheck_any y w).mono fun _ _ ⟨h, e⟩ => ⟨h, e ▸ Below.refl _ _⟩
theorem leap_any (y : Int) (w : World) (hs : Start w) (h0 : -9223372036854775808 ≤ y) (h1 : y ≤ 9223372036854775807) : Calls Tryd.prog 7 #[.int .i64 y] w fun e w' => e = .returned (.tuple #[.bool (yr y && lpB y), .int .i64 (yE y)]) ∧ Below w.heap.size w w' := qleap_any y w hs h0 h1
theorem len_any (y : Int) (w : World) (hs : Start w) (h0 : -9223372036854775808 ≤ y) (h1 : y ≤ 9223372036854775807) : Calls Tryd.prog 8 #[.int .i64 y] w fun e w' => e = .returned (.tuple #[.int .i64 (yV y (lenI y)), .int .i64 (yE y)]) ∧ Below w.heap.size w w' := qlen_any y w hs h0 h1
theorem start_any (y : Int) (w : World) (hs : Start w) (_ : -9223372036854775808 ≤ y) (_ : y ≤ 9223372036854775807) : Calls Tryd.prog 9 #[.int .i64 y] w fun e w' => e = .returned (.tuple #[.int .i64 (yV y (stI y)), .int .i64 (yE y)]) ∧ Below w.heap.size w w' := qstart_any y w hs
theorem end_any (y : Int) (w : World) (hs : Start w) (_ : -9223372036854775808 ≤ y) (_ : y ≤ 9223372036854775807) : Calls Tryd.prog 10 #[.int .i64 y] w fun e w' => e = .returned (.tuple #[.int .i64 (yV y (stI (y + 1) - 1)), .int .i64 (yE y)]) ∧ Below w.heap.size w w' := qend_any y w hs
theorem of_any (y : Int) (w : World) (hs : Start w) (_ : -9223372036854775808 ≤ y) (_ : y ≤ 9223372036854775807) : Calls Tryd.prog 19 #[.int .i64 y] w fun e w' => e = .returned (.tuple #[.int .i64 (yV (yrOf y) (yrOf y)), .int .i64 (yE (yrOf y))]) ∧ Below w.heap.size w w' := qof_any y w hs
theorem leaps_any (y : Int) (w : World) (hs : Start w) (_ : -9223372036854775808 ≤ y) (_ : y ≤ 9223372036854775807) (z : Int) (_ : -9223372036854775808 ≤ z) (_ : z ≤ 9223372036854775807) : Calls Tryd.prog 21 #[.int .i64 y, .int .i64 z] w fun e w' => e = .returned (.tuple #[.int .i64 (lpsV y z), .int .i64 (lpsE y z)]) ∧ Below w.heap.size w w' := qleaps_any y z w hs
end Go.Proofs.YtcecolmpnllfhaaDoor
