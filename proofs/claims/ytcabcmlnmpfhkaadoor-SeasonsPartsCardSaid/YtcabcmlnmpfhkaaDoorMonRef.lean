/- The reference of months (circaref05), function by function: what each returns. -/
import Derived.Test.YtcabcmlnmpfhkaaDoorYRef
import Derived.Test.YtcabcmlnmpfhkaaDoorMon
namespace Go.Proofs.YtcabcmlnmpfhkaaDoor
open Go.RowKit

theorem mlenR_any (y m : Int) (w : World) :
    Calls Tryd.prog 39 #[.int .i64 y, .int .i64 m] w fun e w' => e = .returned (.int .i64 (mlen y m)) ∧ w = w' := by
  have hL := Lib.hid (lenR_any y w)
  have hl := lenI_bd y
  obtain ⟨hl1, hl2⟩ := hl
  by_cases h : m = 4 ∨ m = 6 ∨ m = 9 ∨ m = 11
  · have hr : mlen y m = 30 := if_pos h
    rw [hr]
    clear hr
    rcases h with rfl | rfl | rfl | rfl
    all_goals
      go_enter Tryd.func39, Tryd.ntmps39
      go_wp2
      go_ret
      exact ⟨rfl, rfl⟩
  · by_cases h2 : m = 2
    · have hr : mlen y m = lenI y - 337 := by unfold mlen; rw [if_neg h, if_pos h2]
      rw [hr]
      clear hr h
      subst h2
      generalize lenI y = L at *
      go_enter Tryd.func39, Tryd.ntmps39
      go_wp2_with (go_at_call 21; refine hL.out.mono ?_; rintro e w' ⟨rfl, rfl⟩)
      go_ret
      exact ⟨rfl, rfl⟩
    · have hr : mlen y m = 31 := by unfold mlen; rw [if_neg h, if_neg h2]
      rw [hr]
      have g1 : (m == 4) = false := by rw [beq_eq_false_iff_ne]; omega
      have g2 : (m == 6) = false := by rw [beq_eq_false_iff_ne]; omega
      have g3 : (m == 9) = false := by rw [beq_eq_false_iff_ne]; omega
      have g4 : (m == 11) = false := by rw [beq_eq_false_iff_ne]; omega
      have g5 : (m == 2) = false := by rw [beq_eq_false_iff_ne]; omega
      clear hr h h2
      go_enter Tryd.func39, Tryd.ntmps39
      go_wp2
      go_ret
      exact ⟨rfl, rfl⟩

theorem mst_bd (y : Int) (n : Nat) (hn : n ≤ 12) (h : -25000000000000000 ≤ y ∧ y ≤ 25000000000000000) : -9132000000000000000 ≤ mst y n ∧ mst y n ≤ 9132000000000000000 := by
  have h1 := mst_lo y n
  have h2 := mst_hi y n
  have e1 := stI_le (show (-25000000000000400 : Int) ≤ y by omega)
  have e2 := stI_le (show y ≤ 25000000000000400 by omega)
  have e3 : stI (-25000000000000400) = -9131062500000146097 := by decide
  have e4 : stI 25000000000000400 = 9131062500000146097 := by decide
  omega

set_option maxHeartbeats 800000 in
theorem mstR_any (y : Int) (n : Nat) (w : World) (hn : n < 12) (h0 : -25000000000000000 ≤ y) (h1 : y ≤ 25000000000000000) :
    Calls Tryd.prog 25 #[.int .i64 y, .int .i64 ((n : Int) + 1)] w fun e w' => e = .returned (.int .i64 (mst y n)) ∧ w = w' := by
  have hS := Lib.hid (stR_any y w h0 h1)
  have hL : Hid (∀ k w, Calls Tryd.prog 39 #[.int .i64 y, .int .i64 k] w fun e w' => e = .returned (.int .i64 (mlen y k)) ∧ w = w') := fun k w => mlenR_any y k w
  have HB : Hid (∀ j : Nat, j ≤ 12 → -9132000000000000000 ≤ mst y j ∧ mst y j ≤ 9132000000000000000) := fun j hj => mst_bd y j hj ⟨h0, h1⟩
  go_enter Tryd.func25, Tryd.ntmps25
  go_wp2_with (go_at_call 20; refine hS.out.mono ?_; rintro e w' ⟨rfl, rfl⟩)
  go_loop [5, 6] (fun d k => ∃ j : Nat, j ≤ n ∧ k = .int .i64 ((j : Int) + 1) ∧ d = .int .i64 (mst y j)) (fun _ k => 20 - (intOf k).toNat)
  case atStart => exact ⟨0, by omega, rfl, rfl⟩
  case round =>
    obtain ⟨j, hj, rfl, rfl⟩ := hrel
    obtain ⟨b1, b2⟩ := HB.out j (by omega)
    obtain ⟨b3, b4⟩ := HB.out (j + 1) (by omega)
    have hm : mst y (j + 1) = mst y j + mlen y ((j : Int) + 1) := rfl
    rw [hm] at b3 b4
    have HM := Lib.hid hm
    clear hm
    by_cases hlt : j < n
    · have hlt2 : (j : Int) + 1 < (n : Int) + 1 := by omega
      generalize mst y j = a at *
      go_wp2_with (go_at_call 39; refine (hL.out _ _).mono ?_; rintro e w' ⟨rfl, rfl⟩)
      go_round
      case rel => exact ⟨j + 1, by omega, by go_num, by rw [HM.out]⟩
      case measure => simp [intOf]; omega
    · obtain rfl : j = n := by omega
      have hlt2 : ¬ (j : Int) + 1 < (j : Int) + 1 := by omega
      clear b3 b4
      go_wp2
      go_ret
      exact ⟨rfl, rfl⟩

theorem mendR_any (y : Int) (n : Nat) (w : World) (hn : n < 12) (h0 : -25000000000000000 ≤ y) (h1 : y ≤ 25000000000000000) :
    Calls Tryd.prog 26 #[.int .i64 y, .int .i64 ((n : Int) + 1)] w fun e w' => e = .returned (.int .i64 (mst y (n + 1) - 1)) ∧ w = w' := by
  have hS := Lib.hid (mstR_any y n w hn h0 h1)
  have hL := Lib.hid (mlenR_any y ((n : Int) + 1) w)
  obtain ⟨b1, b2⟩ := mst_bd y n (by omega) ⟨h0, h1⟩
  obtain ⟨b3, b4⟩ := mst_bd y (n + 1) (by omega) ⟨h0, h1⟩
  have hm : mst y (n + 1) = mst y n + mlen y ((n : Int) + 1) := rfl
  rw [hm] at b3 b4 ⊢
  clear hm
  generalize mst y n = a at *
  generalize mlen y ((n : Int) + 1) = b at *
  go_enter Tryd.func26, Tryd.ntmps26
  go_wp2_with (first
    | (go_at_call 25; refine hS.out.mono ?_; rintro e w' ⟨rfl, rfl⟩)
    | (go_at_call 39; refine hL.out.mono ?_; rintro e w' ⟨rfl, rfl⟩))
  go_ret
  exact ⟨rfl, rfl⟩

end Go.Proofs.YtcabcmlnmpfhkaaDoor
