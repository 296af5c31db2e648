/- Seasons, quarters, thirds and halves of years as whole numbers: their months, their first and last days. -/
import Derived.Test.YtcabcmlnmpfhkaaDoorMonRef
namespace Go.Proofs.YtcabcmlnmpfhkaaDoor
open Go.RowKit

def isC (c : Int) : Bool := decide (21 ≤ c ∧ c ≤ 41)
theorem isC_iff (c : Int) : isC c = true ↔ 21 ≤ c ∧ c ≤ 41 := by simp [isC]
theorem isC_no {c : Int} (h : isC c = false) : c < 21 ∨ 41 < c := by
  have : ¬ (21 ≤ c ∧ c ≤ 41) := fun q => by rw [(isC_iff c).2 q] at h; cases h
  omega
/-- The first month of a code, and how many there are. -/
def sF (c : Int) : Nat := if isC c then [3, 6, 9, 12, 3, 6, 9, 12, 9, 12, 3, 6, 1, 4, 7, 10, 1, 5, 9, 1, 7].getD (c - 21).toNat 0 else 0
def sN (c : Int) : Nat := if isC c then (if c ≤ 36 then 3 else if c ≤ 39 then 4 else 6) else 0
theorem code_cases {c : Int} (h : isC c = true) : c = 21 ∨ c = 22 ∨ c = 23 ∨ c = 24 ∨ c = 25 ∨ c = 26 ∨ c = 27 ∨ c = 28 ∨ c = 29 ∨ c = 30 ∨ c = 31 ∨ c = 32 ∨ c = 33 ∨ c = 34 ∨ c = 35 ∨ c = 36 ∨ c = 37 ∨ c = 38 ∨ c = 39 ∨ c = 40 ∨ c = 41 := by
  have := (isC_iff c).1 h
  omega
theorem sFN {c : Int} (h : isC c = true) : 1 ≤ sF c ∧ sF c ≤ 12 ∧ 3 ≤ sN c ∧ sN c ≤ 6 ∧ sF c + sN c ≤ 15 := by
  rcases code_cases h with rfl | rfl | rfl | rfl | rfl | rfl | rfl | rfl | rfl | rfl | rfl | rfl | rfl | rfl | rfl | rfl | rfl | rfl | rfl | rfl | rfl <;> decide
theorem sF_no {c : Int} (h : isC c = false) : sF c = 0 ∧ sN c = 0 := by unfold sF sN; rw [h]; exact ⟨rfl, rfl⟩
/-- The first day of the month behind the first j of a year and the next one. -/
def sm (y : Int) (j : Nat) : Int := if j ≤ 12 then mst y j else mst (y + 1) (j - 12)
def sLo (y c : Int) : Int := sm y (sF c - 1)
def sHi (y c : Int) : Int := sm y (sF c - 1 + sN c) - 1
def sE (y c : Int) : Int := if isC c = true then (if yr y = true then (if 12 < sF c + sN c - 1 ∧ yr (y + 1) = false then 6 else 0) else 6) else 7
end Go.Proofs.YtcabcmlnmpfhkaaDoor
