/- ints.Div where the divisor is positive: the quotient downwards. -/
import Derived.Test.YtcabcmlnmpfhkaaDoorY0
namespace Go.Proofs.YtcabcmlnmpfhkaaDoor
open Go.RowKit

theorem rup_pos (m b : Int) (w : World) (hb : 0 < b) :
    Calls Tryd.prog 50 #[.int .i64 m, .int .i64 b] w fun e w' => e = .returned (.bool (decide (m < 0))) ∧ w = w' := by
  by_cases h0 : m = 0
  · subst h0
    have h3 : ((0 : Int) != 0) = false := by decide
    go_enter Tryd.func50, Tryd.ntmps50
    go_wp2
    go_ret
    exact ⟨rfl, rfl⟩
  · have h3 : (m != 0) = true := by simp [h0]
    have hb1 : ¬ b < 0 := by omega
    by_cases a1 : m < 0
    · have hr : decide (m < 0) = true := decide_eq_true a1
      rw [hr]
      clear hr h0
      go_enter Tryd.func50, Tryd.ntmps50
      go_wp2
      go_ret
      exact ⟨rfl, rfl⟩
    · have hr : decide (m < 0) = false := decide_eq_false a1
      rw [hr]
      clear hr h0
      go_enter Tryd.func50, Tryd.ntmps50
      go_wp2
      go_ret
      exact ⟨rfl, rfl⟩

theorem idiv_down {a b : Int} (hb : 0 < b) (ha : -9223372036854775808 ≤ a) (ha' : a ≤ 9223372036854775807) : -9223372036854775808 ≤ a / b ∧ a / b ≤ 9223372036854775807 := by
  constructor
  · by_cases h : 0 ≤ a
    · have := Int.ediv_nonneg h (show 0 ≤ b by omega); omega
    · rw [Int.le_ediv_iff_mul_le hb]
      have : 9223372036854775808 * 1 ≤ 9223372036854775808 * b := Int.mul_le_mul_of_nonneg_left (by omega) (by omega)
      rw [Int.neg_mul]; omega
  · by_cases h : 0 ≤ a
    · have := Int.ediv_le_self b h; omega
    · have : a / b < 0 := Int.ediv_neg_of_neg_of_pos (by omega) hb
      omega
set_option maxHeartbeats 400000 in
theorem idiv_pos (a b : Int) (w : World) (ha : -9223372036854775808 ≤ a) (ha' : a ≤ 9223372036854775807) (hb : 0 < b) :
    Calls Tryd.prog 42 #[.int .i64 a, .int .i64 b] w fun e w' => e = .returned (.tuple #[.int .i64 (a / b), .int .i64 0]) ∧ w = w' := by
  have hb0 : (b == 0) = false := by simp; omega
  have hb1 : (b == -1) = false := by simp; omega
  obtain ⟨t1, t2, t3, t4, t5⟩ := tdm a b hb
  have hd := idiv_down hb ha ha'
  have htest : (a == -9223372036854775808) = false ∨ (a == -9223372036854775808) = true := by cases (a == -9223372036854775808) <;> simp
  have HR := Lib.hid (rup_pos (a.tmod b) b)
  by_cases hr : a.tmod b < 0
  · have he := t2 hr
    have hx : decide (a.tmod b < 0) = true := decide_eq_true hr
    rw [hx] at HR
    have han : a < 0 := by
      by_cases h : 0 ≤ a
      · have := Int.tmod_nonneg b h; omega
      · omega
    have hneg : a / b < 0 := Int.ediv_neg_of_neg_of_pos han hb
    have HV : Hid (a.tdiv b - 1 = a / b) := he.symm
    have hq0 : -9223372036854775807 ≤ a.tdiv b := by omega
    have hq1 : a.tdiv b ≤ 0 := by omega
    clear hr he hx t1 t2 t3 t4 t5 hd hneg han
    rcases htest with ht | ht
    all_goals
      go_enter Tryd.func42, Tryd.ntmps42
      go_wp2_with (go_at_call 50; refine (HR.out _ hb).mono ?_; rintro e w' ⟨rfl, rfl⟩)
      go_ret2
      exact ⟨ret_2 HV.out rfl, rfl⟩
  · have he := t3 (by omega)
    have hx : decide (a.tmod b < 0) = false := decide_eq_false hr
    rw [hx] at HR
    have HV : Hid (a.tdiv b = a / b) := he.symm
    have hq0 : -9223372036854775808 ≤ a.tdiv b := by omega
    have hq1 : a.tdiv b ≤ 9223372036854775807 := by omega
    clear hr he hx t1 t2 t3 t4 t5 hd
    rcases htest with ht | ht
    all_goals
      go_enter Tryd.func42, Tryd.ntmps42
      go_wp2_with (go_at_call 50; refine (HR.out _ hb).mono ?_; rintro e w' ⟨rfl, rfl⟩)
      go_ret2
      exact ⟨ret_2 HV.out rfl, rfl⟩
end Go.Proofs.YtcabcmlnmpfhkaaDoor
