/- The law's form for its row. -/
import Derived.Test.YtmbaohjekeiphaaGreatDoorRunOpenA
import Derived.Test.YtmbaohjekeiphaaGreatDoorRunTx
namespace Go.Proofs.YtmbaohjekeiphaaGreatDoor.run9
open Go.RowKit

section
variable (KL : ∀ w W : World, Ok w W → Calls Tryz.prog 23 #[] W fun e w' => e = .returned (.bool true) ∧ Ok w w')
include KL
theorem parse_law' (s : ByteArray) (w W : World) (hs : s.size ≤ maxLen) (h : Ok w W) :
    Calls Tryz.prog 5 #[.string s] W fun e w' => e = .returned (.bool true) ∧ Ok w w' :=
  parse_law s w W KL hs h
end
end Go.Proofs.YtmbaohjekeiphaaGreatDoor.run9
