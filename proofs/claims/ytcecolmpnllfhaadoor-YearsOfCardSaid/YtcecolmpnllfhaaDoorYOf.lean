/- The laws YearsOf and YearsLeaps: they return true for every number. -/
import Derived.Test.YtcecolmpnllfhaaDoorYSt
namespace Go.Proofs.YtcecolmpnllfhaaDoor
open Go.RowKit

theorem cr_of {w X : World} (h : Ok w X) (d : Int) (h0 : -9223372036854775808 ≤ d) (h1 : d ≤ 9223372036854775807) : Calls Tryd.prog 20 #[.int .i64 d] X fun x w' => x = .returned (.tuple #[.int .i64 (yrOf d), .bool (yr (yrOf d))]) ∧ Ok w w' := c_same h (ofR_any d X h0 h1)

set_option maxRecDepth 100000 in
set_option maxHeartbeats 8000000 in
theorem of_law (d : Int) (w W : World) (h0 : -9223372036854775808 ≤ d) (h1 : d ≤ 9223372036854775807) (h : Ok w W) :
    Calls Tryd.prog 4 #[.int .i64 d] W fun e w' => e = .returned (.bool true) ∧ Ok w w' := by
  obtain ⟨s1, s2⟩ := yrOf_spec d
  cases hy : yr (yrOf d) with
  | false =>
    have KO : Hid (∀ X, Ok w X → Calls Tryd.prog 19 #[.int .i64 d] X fun x w' => x = .returned (.tuple #[.int .i64 0, .int .i64 6]) ∧ Ok w w') := fun X hX => c_of hX d h0 h1 (yV_out hy _) (yE_out hy)
    have RO : Hid (∀ X, Ok w X → Calls Tryd.prog 20 #[.int .i64 d] X fun x w' => x = .returned (.tuple #[.int .i64 (yrOf d), .bool false]) ∧ Ok w w') := fun X hX => by have := cr_of hX d h0 h1; rw [hy] at this; exact this
    clear hy s1 s2
    go_enter Tryd.func4, Tryd.ntmps4
    go_wp2_with (first
      | (go_at_call 19; refine (KO.out _ (by assumption)).mono ?_; rintro e w' ⟨rfl, hk⟩)
      | (go_at_call 20; refine (RO.out _ (by assumption)).mono ?_; rintro e w' ⟨rfl, hk⟩)
      | (go_at_call 12; refine (bad_t _ _ _ (by rfl) (by rfl)).mono ?_; rintro e w' ⟨rfl, rfl⟩)
      | (go_at_call 14; refine (lives_t w _ (by assumption)).mono ?_; rintro e w' ⟨rfl, hk⟩))
    go_ret
    exact ⟨rfl, by assumption⟩
  | true =>
    obtain ⟨b1, b2, b3, b4⟩ := yr_st hy
    have KO : Hid (∀ X, Ok w X → Calls Tryd.prog 19 #[.int .i64 d] X fun x w' => x = .returned (.tuple #[.int .i64 (yrOf d), .int .i64 0]) ∧ Ok w w') := fun X hX => c_of hX d h0 h1 (yV_in hy _) (yE_in hy)
    have RO : Hid (∀ X, Ok w X → Calls Tryd.prog 20 #[.int .i64 d] X fun x w' => x = .returned (.tuple #[.int .i64 (yrOf d), .bool true]) ∧ Ok w w') := fun X hX => by have := cr_of hX d h0 h1; rw [hy] at this; exact this
    have KS : Hid (∀ X, Ok w X → Calls Tryd.prog 9 #[.int .i64 (yrOf d)] X fun x w' => x = .returned (.tuple #[.int .i64 (stI (yrOf d)), .int .i64 0]) ∧ Ok w w') := fun X hX => c_start hX (yrOf d) (by omega) (by omega) (yV_in hy _) (yE_in hy)
    have KE : Hid (∀ X, Ok w X → Calls Tryd.prog 10 #[.int .i64 (yrOf d)] X fun x w' => x = .returned (.tuple #[.int .i64 (stI (yrOf d + 1) - 1), .int .i64 0]) ∧ Ok w w') := fun X hX => c_end hX (yrOf d) (by omega) (by omega) (yV_in hy _) (yE_in hy)
    have hle : d ≤ stI (yrOf d + 1) - 1 := by omega
    clear hy s2
    generalize stI (yrOf d + 1) - 1 = E at *
    generalize stI (yrOf d) = S at *
    generalize yrOf d = y at *
    go_enter Tryd.func4, Tryd.ntmps4
    go_wp2_with (first
      | (go_at_call 19; refine (KO.out _ (by assumption)).mono ?_; rintro e w' ⟨rfl, hk⟩)
      | (go_at_call 20; refine (RO.out _ (by assumption)).mono ?_; rintro e w' ⟨rfl, hk⟩)
      | (go_at_call 9; refine (KS.out _ (by assumption)).mono ?_; rintro e w' ⟨rfl, hk⟩)
      | (go_at_call 10; refine (KE.out _ (by assumption)).mono ?_; rintro e w' ⟨rfl, hk⟩)
      | (go_at_call 17; refine (num_t _ _ _ _ (by rfl) (by rfl)).mono ?_; rintro e w' ⟨rfl, rfl⟩)
      | (go_at_call 14; refine (lives_t w _ (by assumption)).mono ?_; rintro e w' ⟨rfl, hk⟩))
    go_ret
    exact ⟨rfl, by assumption⟩

theorem lpsI_bd {a b : Int} (ha : -10000000000000000 ≤ a) (hb : b ≤ 10000000000000000) : 0 ≤ lpsI a b ∧ lpsI a b ≤ 20000000000000001 := by
  unfold lpsI
  split
  · omega
  · have := lps_mono (show a - 1 ≤ b by omega); omega

set_option maxRecDepth 100000 in
set_option maxHeartbeats 8000000 in
theorem leaps_law (a b c : Int) (w W : World) (a0 : -9223372036854775808 ≤ a) (a1 : a ≤ 9223372036854775807) (b0 : -9223372036854775808 ≤ b) (b1 : b ≤ 9223372036854775807) (c0 : -9223372036854775808 ≤ c) (c1 : c ≤ 9223372036854775807) (h : Ok w W) :
    Calls Tryd.prog 5 #[.int .i64 a, .int .i64 b, .int .i64 c] W fun e w' => e = .returned (.bool true) ∧ Ok w w' := by
  have KL : Hid (∀ X y z, Ok w X → y = a → z = b → Calls Tryd.prog 21 #[.int .i64 y, .int .i64 z] X fun x w' => x = .returned (.tuple #[.int .i64 (lpsV a b), .int .i64 (lpsE a b)]) ∧ Ok w w') := fun X y z hX hy hz => by rw [hy, hz]; exact c_leaps hX a b a0 a1 b0 b1 rfl rfl
  have KA : Hid (∀ X y, Ok w X → y = a → Calls Tryd.prog 11 #[.int .i64 y] X fun x w' => x = .returned (.bool (yr a)) ∧ Ok w w') := fun X y hX hy => by rw [hy]; exact cr_is hX a rfl
  have KB : Hid (∀ X y, Ok w X → y = b → Calls Tryd.prog 11 #[.int .i64 y] X fun x w' => x = .returned (.bool (yr b)) ∧ Ok w w') := fun X y hX hy => by rw [hy]; exact cr_is hX b rfl
  by_cases hab : yr a = true ∧ yr b = true
  · obtain ⟨ya, yb⟩ := hab
    have e1 : lpsV a b = lpsI a b := if_pos ⟨ya, yb⟩
    have e2 : lpsE a b = 0 := if_pos ⟨ya, yb⟩
    have ra := (yr_iff a).1 ya
    have rb := (yr_iff b).1 yb
    have RL : Hid (∀ X, Ok w X → Calls Tryd.prog 22 #[.int .i64 a, .int .i64 b] X fun x w' => x = .returned (.int .i64 (lpsI a b)) ∧ Ok w w') := fun X hX => c_same hX (lpsR_any a b X ra.1 ra.2 rb.1 rb.2)
    rw [e1, e2] at KL
    rw [ya] at KA
    rw [yb] at KB
    by_cases hc1 : c < a
    · clear e1 e2 ya yb
      generalize lpsI a b = N at *
      go_enter Tryd.func5, Tryd.ntmps5
      go_wp2_with (first
        | (go_at_call 21; refine (KL.out _ _ _ (by assumption) (by exact rfl) (by exact rfl)).mono ?_; rintro e w' ⟨rfl, hk⟩)
        | (go_at_call 11; refine (KA.out _ _ (by assumption) (by exact rfl)).mono ?_; rintro e w' ⟨rfl, hk⟩)
        | (go_at_call 11; refine (KB.out _ _ (by assumption) (by exact rfl)).mono ?_; rintro e w' ⟨rfl, hk⟩)
        | (go_at_call 22; refine (RL.out _ (by assumption)).mono ?_; rintro e w' ⟨rfl, hk⟩)
        | (go_at_call 17; refine (num_t _ _ _ _ (by rfl) (by rfl)).mono ?_; rintro e w' ⟨rfl, rfl⟩)
        | (go_at_call 14; refine (lives_t w _ (by assumption)).mono ?_; rintro e w' ⟨rfl, hk⟩))
      go_ret
      exact ⟨rfl, by assumption⟩
    · by_cases hc2 : b ≤ c
      · clear e1 e2 ya yb
        generalize lpsI a b = N at *
        go_enter Tryd.func5, Tryd.ntmps5
        go_wp2_with (first
          | (go_at_call 21; refine (KL.out _ _ _ (by assumption) (by exact rfl) (by exact rfl)).mono ?_; rintro e w' ⟨rfl, hk⟩)
          | (go_at_call 11; refine (KA.out _ _ (by assumption) (by exact rfl)).mono ?_; rintro e w' ⟨rfl, hk⟩)
          | (go_at_call 11; refine (KB.out _ _ (by assumption) (by exact rfl)).mono ?_; rintro e w' ⟨rfl, hk⟩)
          | (go_at_call 22; refine (RL.out _ (by assumption)).mono ?_; rintro e w' ⟨rfl, hk⟩)
          | (go_at_call 17; refine (num_t _ _ _ _ (by rfl) (by rfl)).mono ?_; rintro e w' ⟨rfl, rfl⟩)
          | (go_at_call 14; refine (lives_t w _ (by assumption)).mono ?_; rintro e w' ⟨rfl, hk⟩))
        go_ret
        exact ⟨rfl, by assumption⟩
      · have yc : yr c = true := (yr_iff c).2 (by omega)
        have yc1 : yr (c + 1) = true := (yr_iff _).2 (by omega)
        have hsum := lpsI_split (a := a) (b := c) (c := b) (by omega) (by omega)
        obtain ⟨m1, m2⟩ := lpsI_bd (a := a) (b := c) (by omega) (by omega)
        obtain ⟨m3, m4⟩ := lpsI_bd (a := c + 1) (b := b) (by omega) (by omega)
        have KC : Hid (∀ X y z, Ok w X → y = a → z = c → Calls Tryd.prog 21 #[.int .i64 y, .int .i64 z] X fun x w' => x = .returned (.tuple #[.int .i64 (lpsI a c), .int .i64 0]) ∧ Ok w w') := fun X y z hX hy hz => by rw [hy, hz]; exact c_leaps hX a c a0 a1 c0 c1 (if_pos ⟨ya, yc⟩) (if_pos ⟨ya, yc⟩)
        have KD : Hid (∀ X y z, Ok w X → y = c + 1 → z = b → Calls Tryd.prog 21 #[.int .i64 y, .int .i64 z] X fun x w' => x = .returned (.tuple #[.int .i64 (lpsI (c + 1) b), .int .i64 0]) ∧ Ok w w') := fun X y z hX hy hz => by rw [hy, hz]; exact c_leaps hX (c + 1) b (by omega) (by omega) b0 b1 (if_pos ⟨yc1, yb⟩) (if_pos ⟨yc1, yb⟩)
        clear e1 e2 ya yb yc yc1
        rw [← hsum] at KL RL
        clear hsum
        generalize lpsI a c = N1 at *
        generalize lpsI (c + 1) b = N2 at *
        go_enter Tryd.func5, Tryd.ntmps5
        go_wp2_with (first
          | (go_at_call 21; refine (KL.out _ _ _ (by assumption) (by exact rfl) (by exact rfl)).mono ?_; rintro e w' ⟨rfl, hk⟩)
          | (go_at_call 21; refine (KC.out _ _ _ (by assumption) (by exact rfl) (by exact rfl)).mono ?_; rintro e w' ⟨rfl, hk⟩)
          | (go_at_call 21; refine (KD.out _ _ _ (by assumption) (by exact rfl) (by exact rfl)).mono ?_; rintro e w' ⟨rfl, hk⟩)
          | (go_at_call 11; refine (KA.out _ _ (by assumption) (by exact rfl)).mono ?_; rintro e w' ⟨rfl, hk⟩)
          | (go_at_call 11; refine (KB.out _ _ (by assumption) (by exact rfl)).mono ?_; rintro e w' ⟨rfl, hk⟩)
          | (go_at_call 22; refine (RL.out _ (by assumption)).mono ?_; rintro e w' ⟨rfl, hk⟩)
          | (go_at_call 17; refine (num_t _ _ _ _ (by rfl) (by rfl)).mono ?_; rintro e w' ⟨rfl, rfl⟩)
          | (go_at_call 14; refine (lives_t w _ (by assumption)).mono ?_; rintro e w' ⟨rfl, hk⟩))
        go_ret
        exact ⟨rfl, by assumption⟩
  · have e1 : lpsV a b = 0 := if_neg hab
    have e2 : lpsE a b = 6 := if_neg hab
    rw [e1, e2] at KL
    have hc : yr a = false ∨ (yr a = true ∧ yr b = false) := by cases h1 : yr a <;> cases h2 : yr b <;> simp_all
    generalize yr a = ya at *
    generalize yr b = yb at *
    clear e1 e2 hab
    rcases hc with rfl | ⟨rfl, rfl⟩
    all_goals
      go_enter Tryd.func5, Tryd.ntmps5
      go_wp2_with (first
        | (go_at_call 21; refine (KL.out _ _ _ (by assumption) (by exact rfl) (by exact rfl)).mono ?_; rintro e w' ⟨rfl, hk⟩)
        | (go_at_call 11; refine (KA.out _ _ (by assumption) (by exact rfl)).mono ?_; rintro e w' ⟨rfl, hk⟩)
        | (go_at_call 11; refine (KB.out _ _ (by assumption) (by exact rfl)).mono ?_; rintro e w' ⟨rfl, hk⟩)
        | (go_at_call 12; refine (bad_t _ _ _ (by rfl) (by rfl)).mono ?_; rintro e w' ⟨rfl, rfl⟩)
        | (go_at_call 14; refine (lives_t w _ (by assumption)).mono ?_; rintro e w' ⟨rfl, hk⟩))
      go_ret
      exact ⟨rfl, by assumption⟩
end Go.Proofs.YtcecolmpnllfhaaDoor
