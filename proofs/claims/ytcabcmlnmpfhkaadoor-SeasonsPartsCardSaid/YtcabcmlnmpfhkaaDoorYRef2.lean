/- The reference of years (circaref04): how many leap years there are. -/
import Derived.Test.YtcabcmlnmpfhkaaDoorYRef
namespace Go.Proofs.YtcabcmlnmpfhkaaDoor
open Go.RowKit

theorem lps_mono {a b : Int} (h : a ≤ b) : lps a ≤ lps b ∧ lps b ≤ lps a + (b - a) := by
  obtain ⟨n, rfl⟩ : ∃ n : Nat, b = a + n := ⟨(b - a).toNat, by omega⟩
  clear h
  induction n with
  | zero => simp
  | succ n ih =>
    have h1 := lps_succ (a + ((n + 1 : Nat) : Int))
    have h2 := lenI_bd (a + ((n + 1 : Nat) : Int))
    rw [show a + ((n + 1 : Nat) : Int) - 1 = a + (n : Int) by omega] at h1
    omega

end Go.Proofs.YtcabcmlnmpfhkaaDoor
