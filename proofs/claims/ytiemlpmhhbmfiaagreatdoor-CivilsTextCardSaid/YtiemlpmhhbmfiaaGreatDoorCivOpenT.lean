/- The law on texts, for a civil day among the arguments. -/
import Derived.Test.YtiemlpmhhbmfiaaGreatDoorCivLaws
import Derived.Test.YtiemlpmhhbmfiaaGreatDoorCivOpen
namespace Go.Proofs.YtiemlpmhhbmfiaaGreatDoor.civ
open Go.RowKit

theorem text_law' (u : Int × Int × Int) (w W : World) (hu : In3 u) (h : Ok w W) :
    Calls Tryz.prog 6 #[.agg #[.int .i64 u.1, .int .i64 u.2.1, .int .i64 u.2.2]] W fun e w' => e = .returned (.bool true) ∧ Ok w w' := text_law u.1 u.2.1 u.2.2 w W hu.1 hu.2.1 hu.2.2 h
end Go.Proofs.YtiemlpmhhbmfiaaGreatDoor.civ
