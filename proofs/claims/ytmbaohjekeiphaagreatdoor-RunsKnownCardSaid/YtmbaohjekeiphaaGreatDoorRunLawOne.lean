/- The law's form for its row. -/
import Derived.Test.YtmbaohjekeiphaaGreatDoorRunOpenA
import Derived.Test.YtmbaohjekeiphaaGreatDoorRunOo
namespace Go.Proofs.YtmbaohjekeiphaaGreatDoor.run9
open Go.RowKit

section
variable (KL : ∀ w W : World, Ok w W → Calls Tryz.prog 23 #[] W fun e w' => e = .returned (.bool true) ∧ Ok w w')
include KL
theorem one_law' (u : Ru) (k : Int) (z : Int × Int) (w W : World) (hu : u.In) (h0 : -9223372036854775808 ≤ k) (h1 : k ≤ 9223372036854775807) (hz : InZ z) (h : Ok w W) :
    Calls Tryz.prog 4 #[.agg #[.int .i8 u.i, .int .i64 u.d, .int .i8 u.j, .int .i64 u.e], .int .i64 k, .agg #[.int .i64 z.1, .int .i64 z.2]] W fun e w' => e = .returned (.bool true) ∧ Ok w w' :=
  one_law u.i u.d u.j u.e k z.1 z.2 w W KL hu ⟨h0, h1⟩ hz.1 hz.2 h
end
end Go.Proofs.YtmbaohjekeiphaaGreatDoor.run9
