/- The reference of seasons (circaref07). -/
import Derived.Test.YtcabcmlnmpfhkaaDoorSea
namespace Go.Proofs.YtcabcmlnmpfhkaaDoor
open Go.RowKit

set_option maxHeartbeats 4000000 in
set_option maxRecDepth 100000 in
theorem smonR_any (c : Int) (w : World) : Calls Tryd.prog 8 #[.int .i64 c] w fun e w' => e = .returned (.tuple #[.int .i64 (sF c : Nat), .int .i64 (sN c : Nat)]) ∧ w = w' := by
  cases h : isC c
  · rw [(sF_no h).1, (sF_no h).2]
    have hc := isC_no h
    clear h
    have n21 : (c == 21) = false := by simp; omega
    have n22 : (c == 22) = false := by simp; omega
    have n23 : (c == 23) = false := by simp; omega
    have n24 : (c == 24) = false := by simp; omega
    have n25 : (c == 25) = false := by simp; omega
    have n26 : (c == 26) = false := by simp; omega
    have n27 : (c == 27) = false := by simp; omega
    have n28 : (c == 28) = false := by simp; omega
    have n29 : (c == 29) = false := by simp; omega
    have n30 : (c == 30) = false := by simp; omega
    have n31 : (c == 31) = false := by simp; omega
    have n32 : (c == 32) = false := by simp; omega
    have n33 : (c == 33) = false := by simp; omega
    have n34 : (c == 34) = false := by simp; omega
    have n35 : (c == 35) = false := by simp; omega
    have n36 : (c == 36) = false := by simp; omega
    have n37 : (c == 37) = false := by simp; omega
    have n38 : (c == 38) = false := by simp; omega
    have n39 : (c == 39) = false := by simp; omega
    have n40 : (c == 40) = false := by simp; omega
    have n41 : (c == 41) = false := by simp; omega
    clear hc
    go_enter Tryd.func8, Tryd.ntmps8
    go_wp2
    go_ret2
    exact ⟨rfl, rfl⟩
  · rcases code_cases h with rfl | rfl | rfl | rfl | rfl | rfl | rfl | rfl | rfl | rfl | rfl | rfl | rfl | rfl | rfl | rfl | rfl | rfl | rfl | rfl | rfl
    all_goals
      clear h
      go_enter Tryd.func8, Tryd.ntmps8
      go_wp2
      go_ret2
      exact ⟨rfl, rfl⟩
end Go.Proofs.YtcabcmlnmpfhkaaDoor
