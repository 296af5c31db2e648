/- The law's form for its row. -/
import Derived.Test.YtmbaohjekeiphaaGreatDoorRunOpenA
import Derived.Test.YtmbaohjekeiphaaGreatDoorRunTx
namespace Go.Proofs.YtmbaohjekeiphaaGreatDoor.run9
open Go.RowKit

section
variable (KL : ∀ w W : World, Ok w W → Calls Tryz.prog 23 #[] W fun e w' => e = .returned (.bool true) ∧ Ok w w')
include KL
theorem text_law' (u : Ru) (w W : World) (hu : u.In) (h : Ok w W) :
    Calls Tryz.prog 33 #[.agg #[.int .i8 u.i, .int .i64 u.d, .int .i8 u.j, .int .i64 u.e]] W fun e w' => e = .returned (.bool true) ∧ Ok w w' :=
  text_law u.i u.d u.j u.e w W KL hu h
end
end Go.Proofs.YtmbaohjekeiphaaGreatDoor.run9
