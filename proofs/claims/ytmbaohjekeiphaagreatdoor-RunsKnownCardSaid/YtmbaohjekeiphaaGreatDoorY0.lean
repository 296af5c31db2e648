/- What all texts on the calendar share: quotients and remainders as the language has them. -/
import Derived.Test.YtmbaohjekeiphaaGreatDoorRows
import Derived.Test.YtmbaohjekeiphaaGreatDoorYear
import Derived.WalkKit
import Derived.WalkSpells
import Derived.WalkLawsBesides
import Derived.Handy
import Derived.Lib.Hide
import Derived.Deep.QuietTactic
import Derived.BigQuiet
import Derived.WalkSmall
namespace Go.Proofs.YtmbaohjekeiphaaGreatDoor
open Go.RowKit

theorem ret_b {a b : Bool} (h : a = b) : Ending.returned (.bool a) = .returned (.bool b) := by rw [h]
theorem ret_i {k : IntKind} {a b : Int} (h : a = b) : Ending.returned (.int k a) = .returned (.int k b) := by rw [h]
theorem ret_2 {k k' : IntKind} {a b c d : Int} (h : a = b) (h' : c = d) : Ending.returned (.tuple #[.int k a, .int k' c]) = .returned (.tuple #[.int k b, .int k' d]) := by rw [h, h']
theorem ret_q {k : IntKind} {a b : Int} {c d : Bool} (h : a = b) (h' : c = d) : Ending.returned (.tuple #[.int k a, .bool c]) = .returned (.tuple #[.int k b, .bool d]) := by rw [h, h']
/-- The quotient towards 0 and its remainder, and the quotient downwards. -/
theorem tdm (x n : Int) (hn : 0 < n) : x = n * x.tdiv n + x.tmod n ∧ (x.tmod n < 0 → x / n = x.tdiv n - 1) ∧ (0 ≤ x.tmod n → x / n = x.tdiv n) ∧ -n < x.tmod n ∧ x.tmod n < n := by
  have h1 := Int.mul_tdiv_add_tmod x n
  have h2 : -n < x.tmod n ∧ x.tmod n < n := by
    constructor
    · have := Int.tmod_lt_of_pos (-x) hn; rw [Int.neg_tmod] at this; omega
    · exact Int.tmod_lt_of_pos x hn
  refine ⟨h1.symm, fun h => ?_, fun h => ?_, h2.1, h2.2⟩
  · have e : x = (x.tmod n + n) + n * (x.tdiv n - 1) := by rw [Int.mul_sub]; omega
    calc x / n = ((x.tmod n + n) + n * (x.tdiv n - 1)) / n := congrArg (· / n) e
      _ = (x.tmod n + n) / n + (x.tdiv n - 1) := Int.add_mul_ediv_left _ _ (by omega)
      _ = x.tdiv n - 1 := by rw [Int.ediv_eq_zero_of_lt (by omega) (by omega)]; omega
  · have e : x = x.tmod n + n * x.tdiv n := by omega
    calc x / n = (x.tmod n + n * x.tdiv n) / n := congrArg (· / n) e
      _ = x.tmod n / n + x.tdiv n := Int.add_mul_ediv_left _ _ (by omega)
      _ = x.tdiv n := by rw [Int.ediv_eq_zero_of_lt h h2.2]; omega
theorem tmod_zero (x n : Int) (hn : 0 < n) : x.tmod n = 0 ↔ x % n = 0 := by
  obtain ⟨h1, h2, h3, h4, h5⟩ := tdm x n hn
  have h6 := Int.mul_ediv_add_emod x n
  have h7 := Int.emod_nonneg x (show n ≠ 0 by omega)
  have h8 := Int.emod_lt_of_pos x hn
  by_cases h : x.tmod n < 0
  · have := h2 h
    rw [this, Int.mul_sub, Int.mul_one] at h6
    generalize n * x.tdiv n = q at *
    omega
  · have := h3 (by omega)
    rw [this] at h6
    generalize n * x.tdiv n = q at *
    omega
end Go.Proofs.YtmbaohjekeiphaaGreatDoor
