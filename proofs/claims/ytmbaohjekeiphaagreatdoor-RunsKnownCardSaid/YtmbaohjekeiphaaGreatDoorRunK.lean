/- The contracts from world to world, each with what it returns as an equation. -/
import Derived.Test.YtmbaohjekeiphaaGreatDoorRunL
import Derived.Test.YtmbaohjekeiphaaGreatDoorRuns1
namespace Go.Proofs.YtmbaohjekeiphaaGreatDoor.run9
open Go.RowKit

theorem okU_true {a b : Ru} (h1 : ruE a = 0) (h2 : ruE b = 0) : okU a b = true := by unfold okU; rw [h1, h2]; rfl
theorem okU_false {a b : Ru} (h : ¬ (ruE a = 0 ∧ ruE b = 0)) : okU a b = false := by
  unfold okU
  rw [Bool.eq_false_iff]
  intro q
  rw [Bool.and_eq_true, beq_iff_eq, beq_iff_eq] at q
  exact h q
theorem okU_comm (a b : Ru) : okU a b = okU b a := by unfold okU; exact Bool.and_comm _ _
theorem toB_comm (a b : Ru) : toB a b = toB b a := by unfold toB; rw [okU_comm, ruTo_comm]
theorem coB_comm (a b : Ru) : coB a b = coB b a := by unfold coB; rw [okU_comm, ruOv_comm]
theorem joR_comm (a b : Ru) : joR a b = joR b a := by unfold joR; rw [toB_comm, ruJ_comm]
theorem coR_comm (a b : Ru) : coR a b = coR b a := by unfold coR; rw [coB_comm, ruK_comm]
theorem ov_to {a b : Ru} (h : ruOv a b = true) : ruTo a b = true := by unfold ruTo; rw [h]; rfl
section
variable {w X : World} (h : Ok w X)
include h
theorem k_join (a b : Ru) (ha : a.In) (hb : b.In) {r : Ru} {t : Bool} (hr : joR a b = r) (ht : toB a b = t) : Calls Tryz.prog 13 #[V4 a, V4 b] X fun x w' => x = .returned (.tuple #[V4 r, .bool t]) ∧ Ok w w' := c_eq h (by rw [hr, ht]) (run_join a b X h.1 ha hb)
theorem k_common (a b : Ru) (ha : a.In) (hb : b.In) {r : Ru} {t : Bool} (hr : coR a b = r) (ht : coB a b = t) : Calls Tryz.prog 14 #[V4 a, V4 b] X fun x w' => x = .returned (.tuple #[V4 r, .bool t]) ∧ Ok w w' := c_eq h (by rw [hr, ht]) (run_common a b X h.1 ha hb)
theorem k_touch (a b : Ru) (ha : a.In) (hb : b.In) {t : Bool} (ht : toB a b = t) : Calls Tryz.prog 15 #[V4 a, V4 b] X fun x w' => x = .returned (.bool t) ∧ Ok w w' := c_eq h (by rw [ht]) (run_touch a b X h.1 ha hb)
theorem k_has (a : Ru) (n : Int) (ha : a.In) (hn : I64 n) {t : Bool} (ht : haB a n = t) : Calls Tryz.prog 21 #[V4 a, .int .i64 n] X fun x w' => x = .returned (.bool t) ∧ Ok w w' := c_eq h (by rw [ht]) (run_has a n X h.1 ha hn)
theorem k_within (a b : Ru) (ha : a.In) (hb : b.In) {t : Bool} (ht : wiB a b = t) : Calls Tryz.prog 19 #[V4 a, V4 b] X fun x w' => x = .returned (.bool t) ∧ Ok w w' := c_eq h (by rw [ht]) (run_within a b X h.1 ha hb)
theorem k_cmp (a b : Ru) (ha : a.In) (hb : b.In) {c : Int} (hc : ruC a b = c) : Calls Tryz.prog 9 #[V4 a, V4 b] X fun x w' => x = .returned (.int .i64 c) ∧ Ok w w' := c_eq h (by rw [hc]) (run_cmp a b X h.1 ha hb)
theorem k_check (a : Ru) (ha : a.In) {c : Int} (hc : ruE a = c) : Calls Tryz.prog 8 #[V4 a] X fun x w' => x = .returned (.int .i64 c) ∧ Ok w w' := c_eq h (by rw [hc]) (run_check a X h.1 ha)
theorem r_check (a : Ru) {c : Int} (hc : ruE a = c) : Calls Tryz.prog 7 #[V4 a] X fun x w' => x = .returned (.int .i64 c) ∧ Ok w w' := c_eq h (by rw [← hc]) (chkU_any a.i a.d a.j a.e X)
theorem r_cmp (a b : Ru) {c : Int} (hc : ruC a b = c) : Calls Tryz.prog 10 #[V4 a, V4 b] X fun x w' => x = .returned (.int .i64 c) ∧ Ok w w' := c_eq h (by rw [← hc]) (cmpU_any a.i a.d a.j a.e b.i b.d b.j b.e X)
theorem r_join (a b : Ru) {r : Ru} (hr : ruJ a b = r) : Calls Tryz.prog 17 #[V4 a, V4 b] X fun x w' => x = .returned (V4 r) ∧ Ok w w' := c_eq h (by rw [← hr]) (joiU_any a.i a.d a.j a.e b.i b.d b.j b.e X)
theorem r_common (a b : Ru) {r : Ru} (hr : ruK a b = r) : Calls Tryz.prog 18 #[V4 a, V4 b] X fun x w' => x = .returned (V4 r) ∧ Ok w w' := c_eq h (by rw [← hr]) (comU_any a.i a.d a.j a.e b.i b.d b.j b.e X)
theorem r_touch (a b : Ru) (ha : a.In) (hb : b.In) {t : Bool} (ht : ruTo a b = t) : Calls Tryz.prog 11 #[V4 a, V4 b] X fun x w' => x = .returned (.bool t) ∧ Ok w w' := c_eq h (by rw [← ht]) (toU_any a.i a.d a.j a.e b.i b.d b.j b.e X ha.2.2.2 hb.2.2.2)
theorem r_over (a b : Ru) {t : Bool} (ht : ruOv a b = t) : Calls Tryz.prog 12 #[V4 a, V4 b] X fun x w' => x = .returned (.bool t) ∧ Ok w w' := c_eq h (by rw [← ht]) (ovU_any a.i a.d a.j a.e b.i b.d b.j b.e X)
theorem r_within (a b : Ru) {t : Bool} (ht : ruW a b = t) : Calls Tryz.prog 20 #[V4 a, V4 b] X fun x w' => x = .returned (.bool t) ∧ Ok w w' := c_eq h (by rw [← ht]) (witU_any a.i a.d a.j a.e b.i b.d b.j b.e X)
theorem r_has (a : Ru) (n : Int) {t : Bool} (ht : ruH a n = t) : Calls Tryz.prog 22 #[V4 a, .int .i64 n] X fun x w' => x = .returned (.bool t) ∧ Ok w w' := c_eq h (by rw [← ht]) (hasU_any a.i a.d a.j a.e n X)
theorem f_ok (r : Ru) : Calls Tryz.prog 16 #[V4 r, .bool true, V4 r, .bool true] X fun x w' => x = .returned (.bool true) ∧ Ok w w' := c_eq h rfl (found_ok r.i r.d r.j r.e X)
theorem f_no (r : Ru) : Calls Tryz.prog 16 #[U4 0 0 0 0, .bool false, V4 r, .bool false] X fun x w' => x = .returned (.bool true) ∧ Ok w w' := c_eq h rfl (found_no r.i r.d r.j r.e X)
end

end Go.Proofs.YtmbaohjekeiphaaGreatDoor.run9
