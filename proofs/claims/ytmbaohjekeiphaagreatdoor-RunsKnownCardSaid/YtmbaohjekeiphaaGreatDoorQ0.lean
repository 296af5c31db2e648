/- What the texts on the reference of whole numbers (circaref01) lean on, at a program that has no package ints of its own among its functions. -/
import Derived.Test.YtmbaohjekeiphaaGreatDoorY0
import Derived.Test.YtmbaohjekeiphaaGreatDoorNum
import Derived.Deep.RegionHeld3
namespace Go.Proofs.YtmbaohjekeiphaaGreatDoor
open Go.RowKit
def fitV (n : Int) : Int := if -9223372036854775808 ≤ n ∧ n ≤ 9223372036854775807 then n else 0
theorem fitV_in {n : Int} (h : -9223372036854775808 ≤ n) (h' : n ≤ 9223372036854775807) : fitV n = n := if_pos ⟨h, h'⟩
theorem fitV_out {n : Int} (h : n < -9223372036854775808 ∨ 9223372036854775807 < n) : fitV n = 0 := if_neg (by omega)
theorem digitB_of {c : UInt8} (h : 48 ≤ (c.toNat : Int) ∧ (c.toNat : Int) ≤ 57) : digitB c = true := by unfold digitB; rw [decide_eq_true_eq]; omega
theorem digitB_not {c : UInt8} (h : ¬ (48 ≤ (c.toNat : Int) ∧ (c.toNat : Int) ≤ 57)) : digitB c = false := by unfold digitB; rw [decide_eq_false_iff_not]; omega
end Go.Proofs.YtmbaohjekeiphaaGreatDoor
