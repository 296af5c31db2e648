/- ints.Mod where the divisor is positive: the remainder is not below 0. -/
import Derived.Test.YtcabcmlnmpfhkaaDoorIDiv
namespace Go.Proofs.YtcabcmlnmpfhkaaDoor
open Go.RowKit

theorem imod_pos (a b : Int) (w : World) (hb : 0 < b) (hb' : b ≤ 9223372036854775807) :
    Calls Tryd.prog 43 #[.int .i64 a, .int .i64 b] w fun e w' => e = .returned (.tuple #[.int .i64 (a % b), .int .i64 0]) ∧ w = w' := by
  have hb0 : (b == 0) = false := by simp; omega
  obtain ⟨t1, t2, t3, t4, t5⟩ := tdm a b hb
  have hdm := Int.mul_ediv_add_emod a b
  have HR := Lib.hid (rup_pos (a.tmod b) b)
  by_cases hr : a.tmod b < 0
  · have he := t2 hr
    have hx : decide (a.tmod b < 0) = true := decide_eq_true hr
    rw [hx] at HR
    have HV : Hid (a.tmod b + b = a % b) := by
      show _ = _
      rw [he, Int.mul_sub] at hdm; omega
    clear he hx t1 t2 t3 hdm
    go_enter Tryd.func43, Tryd.ntmps43
    go_wp2_with (go_at_call 50; refine (HR.out _ hb).mono ?_; rintro e w' ⟨rfl, rfl⟩)
    go_ret2
    exact ⟨ret_2 HV.out rfl, rfl⟩
  · have he := t3 (by omega)
    have hx : decide (a.tmod b < 0) = false := decide_eq_false hr
    rw [hx] at HR
    have HV : Hid (a.tmod b = a % b) := by
      show _ = _
      rw [he] at hdm; omega
    clear hr he hx t1 t2 t3 t4 t5 hdm
    go_enter Tryd.func43, Tryd.ntmps43
    go_wp2_with (go_at_call 50; refine (HR.out _ hb).mono ?_; rintro e w' ⟨rfl, rfl⟩)
    go_ret2
    exact ⟨ret_2 HV.out rfl, rfl⟩
end Go.Proofs.YtcabcmlnmpfhkaaDoor
