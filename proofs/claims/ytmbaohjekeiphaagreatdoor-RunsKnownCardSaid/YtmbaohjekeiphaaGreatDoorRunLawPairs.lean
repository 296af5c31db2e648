/- The law's form for its row. -/
import Derived.Test.YtmbaohjekeiphaaGreatDoorRunOpenA
import Derived.Test.YtmbaohjekeiphaaGreatDoorRunPl
namespace Go.Proofs.YtmbaohjekeiphaaGreatDoor.run9
open Go.RowKit

section
variable (KL : ∀ w W : World, Ok w W → Calls Tryz.prog 23 #[] W fun e w' => e = .returned (.bool true) ∧ Ok w w')
include KL
theorem pairs_law' (u v : Ru) (n : Int) (w W : World) (hu : u.In) (hv : v.In) (h0 : -9223372036854775808 ≤ n) (h1 : n ≤ 9223372036854775807) (h : Ok w W) :
    Calls Tryz.prog 3 #[.agg #[.int .i8 u.i, .int .i64 u.d, .int .i8 u.j, .int .i64 u.e], .agg #[.int .i8 v.i, .int .i64 v.d, .int .i8 v.j, .int .i64 v.e], .int .i64 n] W fun e w' => e = .returned (.bool true) ∧ Ok w w' :=
  pairs_law u v n w W KL hu hv ⟨h0, h1⟩ h
end
end Go.Proofs.YtmbaohjekeiphaaGreatDoor.run9
