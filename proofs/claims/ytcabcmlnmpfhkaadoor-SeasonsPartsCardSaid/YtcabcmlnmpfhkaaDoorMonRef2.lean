/- The reference of months (circaref05): Add. -/
import Derived.Test.YtcabcmlnmpfhkaaDoorMonRef
namespace Go.Proofs.YtcabcmlnmpfhkaaDoor
open Go.RowKit

theorem ret_3 {k k' : IntKind} {a b c d : Int} {x y : Bool} (h : a = b) (h' : c = d) (h'' : x = y) : Ending.returned (.tuple #[.int k a, .int k' c, .bool x]) = .returned (.tuple #[.int k b, .int k' d, .bool y]) := by rw [h, h', h'']
def addV (y m k v : Int) : Int := if yr (adY y m k) = true then v else 0

end Go.Proofs.YtcabcmlnmpfhkaaDoor
