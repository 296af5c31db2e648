/- The law's form for its row. -/
import Derived.Test.YtmbaohjekeiphaaDoorRunOpenA
import Derived.Test.YtmbaohjekeiphaaDoorRunPr
namespace Go.Proofs.YtmbaohjekeiphaaDoor.run9
open Go.RowKit

section
variable (KL : ∀ w W : World, Ok w W → Calls Tryd.prog 11 #[] W fun e w' => e = .returned (.bool true) ∧ Ok w w')
include KL
theorem plain_law' (u v : Int × Int × Int) (w W : World) (hu : InR u) (hv : InR v) (h : Ok w W) :
    Calls Tryd.prog 3 #[.agg #[.int .u8 u.1, .int .u8 u.2.1, .int .i16 u.2.2], .agg #[.int .u8 v.1, .int .u8 v.2.1, .int .i16 v.2.2]] W fun e w' => e = .returned (.bool true) ∧ Ok w w' :=
  plain_law u.1 u.2.1 u.2.2 v.1 v.2.1 v.2.2 w W KL hu.1 hu.2 hv.1 hv.2 h
end
end Go.Proofs.YtmbaohjekeiphaaDoor.run9
