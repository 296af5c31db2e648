/- The law YearsKnown: it returns true. -/
import Derived.Test.YtcecolmpnllfhaaDoorYOf
namespace Go.Proofs.YtcecolmpnllfhaaDoor
open Go.RowKit

set_option maxRecDepth 100000 in
set_option maxHeartbeats 8000000 in
theorem known_law (w W : World) (h : Ok w W) :
    Calls Tryd.prog 6 #[] W fun e w' => e = .returned (.bool true) ∧ Ok w w' := by
  go_enter Tryd.func6, Tryd.ntmps6
  go_wp2_with fail
  go_loopw [1, 2] (fun dv yv wr => ∃ (y : Int), -400 ≤ y ∧ y ≤ 500 ∧ yv = .int .i64 y ∧ dv = .int .i64 (stI y) ∧ Ok w wr) (fun _ yv _ => (500 - intOf yv).toNat)
  case atStart => exact ⟨-400, by omega, by omega, rfl, by rw [show stI (-400) = -146097 by decide], h⟩
  case round =>
    obtain ⟨y, hy0, hy1, rfl, rfl, ho⟩ := hrel
    clear h
    have hb := stI_bd y (by omega)
    obtain ⟨hb1, hb2⟩ := hb
    by_cases hlt : y < 500
    · have hyr : yr y = true := (yr_iff _).2 (by omega)
      have hyr1 : yr (y - 1) = true := (yr_iff _).2 (by omega)
      have hs := stI_succ y
      have hs1 := stI_succ (y - 1)
      rw [show y - 1 + 1 = y by omega] at hs1
      have hl := lenI_bd y
      have hl1 := lenI_bd (y - 1)
      have e1 : yrOf (stI y) = y := yrOf_eq (Int.le_refl _) (by omega)
      have e2 : yrOf (stI y - 1) = y - 1 := yrOf_eq (by omega) (by rw [show y - 1 + 1 = y by omega]; omega)
      have KS : Hid (∀ X, Ok w X → Calls Tryd.prog 9 #[.int .i64 y] X fun x w' => x = .returned (.tuple #[.int .i64 (stI y), .int .i64 0]) ∧ Ok w w') := fun X hX => c_start hX y (by omega) (by omega) (yV_in hyr _) (yE_in hyr)
      have KO : Hid (∀ X z, Ok w X → z = stI y → Calls Tryd.prog 19 #[.int .i64 z] X fun x w' => x = .returned (.tuple #[.int .i64 y, .int .i64 0]) ∧ Ok w w') := fun X z hX hz => by rw [hz]; exact c_of hX (stI y) (by omega) (by omega) (by rw [e1]; exact yV_in hyr _) (by rw [e1]; exact yE_in hyr)
      have KP : Hid (∀ X z, Ok w X → z = stI y - 1 → Calls Tryd.prog 19 #[.int .i64 z] X fun x w' => x = .returned (.tuple #[.int .i64 (y - 1), .int .i64 0]) ∧ Ok w w') := fun X z hX hz => by rw [hz]; exact c_of hX (stI y - 1) (by omega) (by omega) (by rw [e2]; exact yV_in hyr1 _) (by rw [e2]; exact yE_in hyr1)
      have RN : Hid (∀ X, Ok w X → Calls Tryd.prog 18 #[.int .i64 y] X fun x w' => x = .returned (.int .i64 (lenI y)) ∧ Ok w w') := fun X hX => c_same hX (lenR_any y X)
      have HS : Hid (stI (y + 1) = stI y + lenI y) := hs
      obtain ⟨hla, hlb⟩ := hl
      clear hs hs1 hl1 e1 e2 hyr hyr1
      generalize stI y = S at *
      generalize lenI y = L at *
      go_wp2_with (first
        | (go_at_call 9; refine (KS.out _ (by assumption)).mono ?_; rintro e w' ⟨rfl, hk⟩)
        | (go_at_call 19; refine (KO.out _ _ (by assumption) (by exact rfl)).mono ?_; rintro e w' ⟨rfl, hk⟩)
        | (go_at_call 19; refine (KP.out _ _ (by assumption) (by exact rfl)).mono ?_; rintro e w' ⟨rfl, hk⟩)
        | (go_at_call 18; refine (RN.out _ (by assumption)).mono ?_; rintro e w' ⟨rfl, hk⟩)
        | (go_at_call 17; refine (num_t _ _ _ _ (by rfl) (by rfl)).mono ?_; rintro e w' ⟨rfl, rfl⟩))
      go_roundw
      case rel => exact ⟨y + 1, by omega, by omega, rfl, by rw [HS.out], by assumption⟩
      case measure => simp [intOf]; omega
    · have hlt2 : ¬ y < 500 := hlt
      clear hlt hb1 hb2
      generalize stI y = S at *
      go_wp2_with (first
        | (go_at_call 9; refine (c_start (by assumption) (-10000000000000000) (by omega) (by omega) (v := -3652425000000000000) (e := 0) (by decide +kernel) (by decide +kernel)).mono ?_; rintro e w' ⟨rfl, hk⟩)
        | (go_at_call 10; refine (c_end (by assumption) 10000000000000000 (by omega) (by omega) (v := 3652425000000000365) (e := 0) (by decide +kernel) (by decide +kernel)).mono ?_; rintro e w' ⟨rfl, hk⟩)
        | (go_at_call 17; refine (num_t _ _ _ _ (by rfl) (by rfl)).mono ?_; rintro e w' ⟨rfl, rfl⟩)
        | (go_at_call 4; refine (of_law _ w _ (by omega) (by omega) (by assumption)).mono ?_; rintro e w' ⟨rfl, hk⟩)
        | (go_at_call 3; refine (start_law _ w _ (by omega) (by omega) (by assumption)).mono ?_; rintro e w' ⟨rfl, hk⟩)
        | (go_at_call 14; refine (lives_t w _ (by assumption)).mono ?_; rintro e w' ⟨rfl, hk⟩))
      go_ret
      exact ⟨rfl, by assumption⟩
end Go.Proofs.YtcecolmpnllfhaaDoor
