/- The laws YearsStart, YearsOf and YearsLeaps: they return true for every number. -/
import Derived.Test.YtcecolmpnllfhaaDoorYLives
namespace Go.Proofs.YtcecolmpnllfhaaDoor
open Go.RowKit

theorem cr_is {w X : World} (h : Ok w X) (y : Int) {b : Bool} (hb : yr y = b) : Calls Tryd.prog 11 #[.int .i64 y] X fun x w' => x = .returned (.bool b) ∧ Ok w w' := by
  subst hb; exact c_same h (isR_any y X)
theorem yr_st {y : Int} (h : yr y = true) : -3652425000000000000 ≤ stI y ∧ stI y ≤ 3652425000000000366 ∧ -10000000000000000 ≤ y ∧ y ≤ 10000000000000000 := by
  have := (yr_iff y).1 h
  have := stI_bd y (by omega)
  omega

set_option maxRecDepth 100000 in
set_option maxHeartbeats 8000000 in
theorem start_law (y : Int) (w W : World) (h0 : -9223372036854775808 ≤ y) (h1 : y ≤ 9223372036854775807) (h : Ok w W) :
    Calls Tryd.prog 3 #[.int .i64 y] W fun e w' => e = .returned (.bool true) ∧ Ok w w' := by
  cases hy : yr y with
  | false =>
    have KC : Hid (∀ X, Ok w X → Calls Tryd.prog 13 #[.int .i64 y] X fun x w' => x = .returned (.int .i64 6) ∧ Ok w w') := fun X hX => c_check hX y h0 h1 (yE_out hy)
    have KL : Hid (∀ X, Ok w X → Calls Tryd.prog 7 #[.int .i64 y] X fun x w' => x = .returned (.tuple #[.bool false, .int .i64 6]) ∧ Ok w w') := fun X hX => c_leap hX y h0 h1 (by rw [hy]; rfl) (yE_out hy)
    have KN : Hid (∀ X, Ok w X → Calls Tryd.prog 8 #[.int .i64 y] X fun x w' => x = .returned (.tuple #[.int .i64 0, .int .i64 6]) ∧ Ok w w') := fun X hX => c_len hX y h0 h1 (yV_out hy _) (yE_out hy)
    have KS : Hid (∀ X, Ok w X → Calls Tryd.prog 9 #[.int .i64 y] X fun x w' => x = .returned (.tuple #[.int .i64 0, .int .i64 6]) ∧ Ok w w') := fun X hX => c_start hX y h0 h1 (yV_out hy _) (yE_out hy)
    have KE : Hid (∀ X, Ok w X → Calls Tryd.prog 10 #[.int .i64 y] X fun x w' => x = .returned (.tuple #[.int .i64 0, .int .i64 6]) ∧ Ok w w') := fun X hX => c_end hX y h0 h1 (yV_out hy _) (yE_out hy)
    have KI : Hid (∀ X, Ok w X → Calls Tryd.prog 11 #[.int .i64 y] X fun x w' => x = .returned (.bool false) ∧ Ok w w') := fun X hX => cr_is hX y hy
    clear hy
    go_enter Tryd.func3, Tryd.ntmps3
    go_wp2_with (first
      | (go_at_call 13; refine (KC.out _ (by assumption)).mono ?_; rintro e w' ⟨rfl, hk⟩)
      | (go_at_call 7; refine (KL.out _ (by assumption)).mono ?_; rintro e w' ⟨rfl, hk⟩)
      | (go_at_call 8; refine (KN.out _ (by assumption)).mono ?_; rintro e w' ⟨rfl, hk⟩)
      | (go_at_call 9; refine (KS.out _ (by assumption)).mono ?_; rintro e w' ⟨rfl, hk⟩)
      | (go_at_call 10; refine (KE.out _ (by assumption)).mono ?_; rintro e w' ⟨rfl, hk⟩)
      | (go_at_call 11; refine (KI.out _ (by assumption)).mono ?_; rintro e w' ⟨rfl, hk⟩)
      | (go_at_call 12; refine (bad_t _ _ _ (by rfl) (by rfl)).mono ?_; rintro e w' ⟨rfl, rfl⟩)
      | (go_at_call 14; refine (lives_t w _ (by assumption)).mono ?_; rintro e w' ⟨rfl, hk⟩))
    go_ret
    exact ⟨rfl, by assumption⟩
  | true =>
    obtain ⟨b1, b2, b3, b4⟩ := yr_st hy
    obtain ⟨l1, l2⟩ := lenI_bd y
    have hsu := stI_succ y
    have h400 : stI (y + 400) = stI y + 146097 := by have := stI_400 y 1; rw [Int.mul_one] at this; omega
    have KC : Hid (∀ X, Ok w X → Calls Tryd.prog 13 #[.int .i64 y] X fun x w' => x = .returned (.int .i64 0) ∧ Ok w w') := fun X hX => c_check hX y h0 h1 (yE_in hy)
    have KL : Hid (∀ X, Ok w X → Calls Tryd.prog 7 #[.int .i64 y] X fun x w' => x = .returned (.tuple #[.bool (lpB y), .int .i64 0]) ∧ Ok w w') := fun X hX => c_leap hX y h0 h1 (by rw [hy]; rfl) (yE_in hy)
    have KN : Hid (∀ X, Ok w X → Calls Tryd.prog 8 #[.int .i64 y] X fun x w' => x = .returned (.tuple #[.int .i64 (lenI y), .int .i64 0]) ∧ Ok w w') := fun X hX => c_len hX y h0 h1 (yV_in hy _) (yE_in hy)
    have KS : Hid (∀ X z, Ok w X → z = y → Calls Tryd.prog 9 #[.int .i64 z] X fun x w' => x = .returned (.tuple #[.int .i64 (stI y), .int .i64 0]) ∧ Ok w w') := fun X z hX hz => by rw [hz]; exact c_start hX y h0 h1 (yV_in hy _) (yE_in hy)
    have KE : Hid (∀ X, Ok w X → Calls Tryd.prog 10 #[.int .i64 y] X fun x w' => x = .returned (.tuple #[.int .i64 (stI y + lenI y - 1), .int .i64 0]) ∧ Ok w w') := fun X hX => c_end hX y h0 h1 (by rw [yV_in hy, hsu]) (yE_in hy)
    have KI : Hid (∀ X z, Ok w X → z = y → Calls Tryd.prog 11 #[.int .i64 z] X fun x w' => x = .returned (.bool true) ∧ Ok w w') := fun X z hX hz => by rw [hz]; exact cr_is hX y hy
    have RS : Hid (∀ X, Ok w X → Calls Tryd.prog 15 #[.int .i64 y] X fun x w' => x = .returned (.int .i64 (stI y)) ∧ Ok w w') := fun X hX => c_same hX (stR_any y X (by omega) (by omega))
    have RL : Hid (∀ X, Ok w X → Calls Tryd.prog 16 #[.int .i64 y] X fun x w' => x = .returned (.bool (lpB y)) ∧ Ok w w') := fun X hX => c_same hX (lpR_any y X)
    have RN : Hid (∀ X, Ok w X → Calls Tryd.prog 18 #[.int .i64 y] X fun x w' => x = .returned (.int .i64 (lenI y)) ∧ Ok w w') := fun X hX => c_same hX (lenR_any y X)
    have KS1 : Hid (∀ X z, Ok w X → z = y + 1 → Calls Tryd.prog 9 #[.int .i64 z] X fun x w' => x = .returned (.tuple #[.int .i64 (yV (y + 1) (stI y + lenI y)), .int .i64 (yE (y + 1))]) ∧ Ok w w') := fun X z hX hz => by rw [hz]; exact c_start hX (y + 1) (by omega) (by omega) (by rw [hsu]) rfl
    have KI1 : Hid (∀ X z, Ok w X → z = y + 1 → Calls Tryd.prog 11 #[.int .i64 z] X fun x w' => x = .returned (.bool (yr (y + 1))) ∧ Ok w w') := fun X z hX hz => by rw [hz]; exact cr_is hX (y + 1) rfl
    have KS4 : Hid (∀ X z, Ok w X → z = y + 400 → Calls Tryd.prog 9 #[.int .i64 z] X fun x w' => x = .returned (.tuple #[.int .i64 (yV (y + 400) (stI y + 146097)), .int .i64 (yE (y + 400))]) ∧ Ok w w') := fun X z hX hz => by rw [hz]; exact c_start hX (y + 400) (by omega) (by omega) (by rw [h400]) rfl
    have KI4 : Hid (∀ X z, Ok w X → z = y + 400 → Calls Tryd.prog 11 #[.int .i64 z] X fun x w' => x = .returned (.bool (yr (y + 400))) ∧ Ok w w') := fun X z hX hz => by rw [hz]; exact cr_is hX (y + 400) rfl
    clear hsu h400 hy
    generalize lpB y = lp at *
    generalize stI y = S at *
    generalize lenI y = L at *
    have c1 : yr (y + 1) = false ∨ (yr (y + 1) = true ∧ yV (y + 1) (S + L) = S + L ∧ yE (y + 1) = 0) := by
      cases h : yr (y + 1)
      · exact .inl rfl
      · exact .inr ⟨rfl, yV_in h _, yE_in h⟩
    have c4 : yr (y + 400) = false ∨ (yr (y + 400) = true ∧ yV (y + 400) (S + 146097) = S + 146097 ∧ yE (y + 400) = 0) := by
      cases h : yr (y + 400)
      · exact .inl rfl
      · exact .inr ⟨rfl, yV_in h _, yE_in h⟩
    generalize yr (y + 1) = i1 at *
    generalize yV (y + 1) (S + L) = v1 at *
    generalize yE (y + 1) = e1 at *
    generalize yr (y + 400) = i4 at *
    generalize yV (y + 400) (S + 146097) = v4 at *
    generalize yE (y + 400) = e4 at *
    rcases c1 with rfl | ⟨rfl, rfl, rfl⟩
    all_goals
      rcases c4 with rfl | ⟨rfl, rfl, rfl⟩
    all_goals
      go_enter Tryd.func3, Tryd.ntmps3
      go_wp2_with (first
        | (go_at_call 13; refine (KC.out _ (by assumption)).mono ?_; rintro e w' ⟨rfl, hk⟩)
        | (go_at_call 7; refine (KL.out _ (by assumption)).mono ?_; rintro e w' ⟨rfl, hk⟩)
        | (go_at_call 8; refine (KN.out _ (by assumption)).mono ?_; rintro e w' ⟨rfl, hk⟩)
        | (go_at_call 9; refine (KS.out _ _ (by assumption) (by exact rfl)).mono ?_; rintro e w' ⟨rfl, hk⟩)
        | (go_at_call 9; refine (KS1.out _ _ (by assumption) (by exact rfl)).mono ?_; rintro e w' ⟨rfl, hk⟩)
        | (go_at_call 9; refine (KS4.out _ _ (by assumption) (by exact rfl)).mono ?_; rintro e w' ⟨rfl, hk⟩)
        | (go_at_call 10; refine (KE.out _ (by assumption)).mono ?_; rintro e w' ⟨rfl, hk⟩)
        | (go_at_call 11; refine (KI.out _ _ (by assumption) (by exact rfl)).mono ?_; rintro e w' ⟨rfl, hk⟩)
        | (go_at_call 11; refine (KI1.out _ _ (by assumption) (by exact rfl)).mono ?_; rintro e w' ⟨rfl, hk⟩)
        | (go_at_call 11; refine (KI4.out _ _ (by assumption) (by exact rfl)).mono ?_; rintro e w' ⟨rfl, hk⟩)
        | (go_at_call 15; refine (RS.out _ (by assumption)).mono ?_; rintro e w' ⟨rfl, hk⟩)
        | (go_at_call 16; refine (RL.out _ (by assumption)).mono ?_; rintro e w' ⟨rfl, hk⟩)
        | (go_at_call 18; refine (RN.out _ (by assumption)).mono ?_; rintro e w' ⟨rfl, hk⟩)
        | (go_at_call 17; refine (num_t _ _ _ _ (by first | rfl | omega) (by rfl)).mono ?_; rintro e w' ⟨rfl, rfl⟩)
        | (go_at_call 14; refine (lives_t w _ (by assumption)).mono ?_; rintro e w' ⟨rfl, hk⟩))
      go_ret
      exact ⟨rfl, by assumption⟩
end Go.Proofs.YtcecolmpnllfhaaDoor
