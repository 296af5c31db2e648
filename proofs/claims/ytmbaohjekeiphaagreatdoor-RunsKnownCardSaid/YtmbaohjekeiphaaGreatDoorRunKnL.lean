/- The law RunsKnown. -/
import Derived.Test.YtmbaohjekeiphaaGreatDoorRunKn
import Derived.Test.YtmbaohjekeiphaaGreatDoorRunLv
import Derived.Test.YtmbaohjekeiphaaGreatDoorRunLawPairs
import Derived.Test.YtmbaohjekeiphaaGreatDoorRunLawOne
import Derived.Test.YtmbaohjekeiphaaGreatDoorRunLawText
import Derived.Test.YtmbaohjekeiphaaGreatDoorRunLawParse
namespace Go.Proofs.YtmbaohjekeiphaaGreatDoor.run9
open Go.RowKit

theorem known_law (w W : World) (ho : Ok w W) : Calls Tryz.prog 6 #[] W fun e w' => e = .returned (.bool true) ∧ Ok w w' :=
  known_walk w W ho (fun a b n ha hb hn => Lib.hid (fun B X hX => pairs_law' lives_law a b n B X ha hb hn.1 hn.2 hX)) (fun a ha => Lib.hid (fun B X hX => text_law' lives_law a B X ha hX))
    (fun a k lo hi ha hk hl hh => Lib.hid (fun B X hX => one_law' lives_law a k (lo, hi) B X ha hk.1 hk.2 ⟨hl, hh⟩ hX)) (Lib.hid (fun s B X hs hX => parse_law' lives_law s B X (Nat.le_trans hs (by unfold maxLen; decide)) hX)) (Lib.hid (fun B X hX => lives_law B X hX))
end Go.Proofs.YtmbaohjekeiphaaGreatDoor.run9
