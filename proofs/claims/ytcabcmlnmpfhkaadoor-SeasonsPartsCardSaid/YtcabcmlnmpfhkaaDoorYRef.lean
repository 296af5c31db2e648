/- The reference of years (circaref04), function by function: what each returns. -/
import Derived.Test.YtcabcmlnmpfhkaaDoorY0
namespace Go.Proofs.YtcabcmlnmpfhkaaDoor
open Go.RowKit

theorem isR_any (y : Int) (w : World) :
    Calls Tryd.prog 19 #[.int .i64 y] w fun e w' => e = .returned (.bool (yr y)) ∧ w = w' := by
  by_cases h1 : -10000000000000000 ≤ y <;> by_cases h2 : y ≤ 10000000000000000
  all_goals
    have hr : yr y = yr y := rfl
    conv at hr => rhs; simp [yr, h1, h2]
    rw [hr]
    clear hr
    go_enter Tryd.func19, Tryd.ntmps19
    go_wp2
    go_ret
    exact ⟨rfl, rfl⟩

theorem lpR_any (y : Int) (w : World) :
    Calls Tryd.prog 31 #[.int .i64 y] w fun e w' => e = .returned (.bool (lpB y)) ∧ w = w' := by
  have t1 := tmod_zero y 400 (by omega)
  have t2 := tmod_zero y 4 (by omega)
  have t3 := tmod_zero y 100 (by omega)
  by_cases h1 : y.tmod 400 = 0
  · have hr : lpB y = true := by simp [lpB, t1.1 h1]
    rw [hr]
    clear hr t1 t2 t3
    go_enter Tryd.func31, Tryd.ntmps31
    go_wp2
    go_ret
    exact ⟨rfl, rfl⟩
  · have g1 : (y.tmod 400 == 0) = false := by rw [beq_eq_false_iff_ne]; exact h1
    have q1 : ¬ y % 400 = 0 := fun h => h1 (t1.2 h)
    by_cases h2 : y.tmod 4 = 0 <;> by_cases h3 : y.tmod 100 = 0
    · have hr : lpB y = false := by simp [lpB, q1, t3.1 h3]
      rw [hr]
      clear hr t1 t2 t3 q1
      go_enter Tryd.func31, Tryd.ntmps31
      go_wp2
      go_ret
      exact ⟨rfl, rfl⟩
    · have q3 : ¬ y % 100 = 0 := fun h => h3 (t3.2 h)
      have hr : lpB y = true := by simp [lpB, t2.1 h2, q3]
      have g3 : (y.tmod 100 != 0) = true := by rw [bne_iff_ne]; exact h3
      rw [hr]
      clear hr t1 t2 t3 q1 q3
      go_enter Tryd.func31, Tryd.ntmps31
      go_wp2
      go_ret
      exact ⟨rfl, rfl⟩
    all_goals
      have q2 : ¬ y % 4 = 0 := fun h => h2 (t2.2 h)
      have hr : lpB y = false := by simp [lpB, q1, q2]
      have g2 : (y.tmod 4 == 0) = false := by rw [beq_eq_false_iff_ne]; exact h2
      rw [hr]
      clear hr t1 t2 t3 q1 q2
      go_enter Tryd.func31, Tryd.ntmps31
      go_wp2
      go_ret
      exact ⟨rfl, rfl⟩

theorem lenR_any (y : Int) (w : World) :
    Calls Tryd.prog 21 #[.int .i64 y] w fun e w' => e = .returned (.int .i64 (lenI y)) ∧ w = w' := by
  have hL := Lib.hid (lpR_any y w)
  rw [lenI_lp]
  cases h : lpB y
  all_goals
    rw [h] at hL
    clear h
    go_enter Tryd.func21, Tryd.ntmps21
    go_wp2_with (go_at_call 31; refine hL.out.mono ?_; rintro e w' ⟨rfl, rfl⟩)
    go_ret
    exact ⟨rfl, rfl⟩

set_option maxHeartbeats 800000 in
theorem stR_any (y : Int) (w : World) (h0 : -25000000000000000 ≤ y) (h1 : y ≤ 25000000000000000) :
    Calls Tryd.prog 20 #[.int .i64 y] w fun e w' => e = .returned (.int .i64 (stI y)) ∧ w = w' := by
  obtain ⟨t1, t2, t3, t4, t5⟩ := tdm y 400 (by omega)
  have hL : Hid (∀ k w, Calls Tryd.prog 21 #[.int .i64 k] w fun e w' => e = .returned (.int .i64 (lenI k)) ∧ w = w') := fun k w => lenR_any k w
  obtain ⟨q, hq⟩ : ∃ q, y / 400 = q := ⟨_, rfl⟩
  obtain ⟨r, hr⟩ : ∃ r, y - 400 * q = r := ⟨_, rfl⟩
  have hr0 : 0 ≤ r ∧ r < 400 := by
    have := Int.mul_ediv_add_emod y 400
    have := Int.emod_nonneg y (show (400 : Int) ≠ 0 by omega)
    have := Int.emod_lt_of_pos y (show (0 : Int) < 400 by omega)
    omega
  have hqb : -62500000000001 ≤ q ∧ q ≤ 62500000000001 := by omega
  have HE : Hid (∀ k : Int, stI (k + 400 * q) = stI k + 146097 * q ∧ lenI (k + 400 * q) = lenI k) := fun k => ⟨stI_400 k q, lenI_400 k q⟩
  have HY : Hid (y = r + 400 * q) := by show _ = _; omega
  have hq0 : (if y.tmod 400 < 0 then y.tdiv 400 - 1 else y.tdiv 400) = q := by
    split
    · rename_i h; rw [← t2 h]; exact hq
    · rename_i h; rw [← t3 (by omega)]; exact hq
  have HB : Hid (∀ k : Int, 0 ≤ k → k ≤ 400 → -9132000000000000000 ≤ stI (k + 400 * q) ∧ stI (k + 400 * q) ≤ 9132000000000000000) := fun k hk0 hk1 => by
    have e1 := stI_le (show (-25000000000000400 : Int) ≤ k + 400 * q by omega)
    have e2 := stI_le (show k + 400 * q ≤ 25000000000000800 by omega)
    have e3 : stI (-25000000000000400) = -9131062500000146097 := by decide
    have e4 : stI 25000000000000800 = 9131062500000292194 := by decide
    omega
  have HS : Hid (∀ k : Int, stI (k + 400 * q) + lenI k = stI (k + 1 + 400 * q)) := fun k => by
    rw [show k + 1 + 400 * q = (k + 400 * q) + 1 by omega, stI_succ, lenI_400]
  have HZ : Hid (q * 146097 = stI (((0 : Nat) : Int) + 400 * q)) := by
    show _ = _
    rw [stI_400, show ((0 : Nat) : Int) = 0 by rfl, stI_zero]; omega
  obtain ⟨p, hp⟩ : ∃ p, y.tdiv 400 = p := ⟨_, rfl⟩
  obtain ⟨m, hm⟩ : ∃ m, y.tmod 400 = m := ⟨_, rfl⟩
  rw [hp, hm] at hq0
  have hpb : -62500000000001 ≤ p ∧ p ≤ 62500000000001 := by omega
  obtain ⟨hr00, hr01⟩ := hr0
  have HR : Hid (stI y = stI (r + 400 * q)) := by show _ = _; rw [HY.out]
  rw [HR.out]
  clear t1 t2 t3 t4 t5 hq HE
  by_cases hneg : m < 0
  · rw [if_pos hneg] at hq0
    go_enter Tryd.func20, Tryd.ntmps20
    go_wp2
    go_loop [4, 5] (fun d k => ∃ j : Nat, (j : Int) ≤ r ∧ k = .int .i64 j ∧ d = .int .i64 (stI ((j : Int) + 400 * q))) (fun _ k => 400 - (intOf k).toNat)
    case atStart => exact ⟨0, by omega, rfl, by rw [← HZ.out]⟩
    case round =>
      obtain ⟨j, hj, rfl, rfl⟩ := hrel
      have hb1 := HB.out j (by omega) (by omega)
      have hb2 := HB.out (j + 1) (by omega) (by omega)
      have hs := HS.out j
      have HS1 := Lib.hid hs
      obtain ⟨hb1a, hb1b⟩ := hb1
      rw [← hs] at hb2
      obtain ⟨hb2a, hb2b⟩ := hb2
      clear hs
      by_cases hlt : (j : Int) < r
      · generalize stI ((j : Int) + 400 * q) = a at *
        go_wp2_with (go_at_call 21; refine (hL.out _ _).mono ?_; rintro e w' ⟨rfl, rfl⟩)
        go_round
        case rel => exact ⟨j + 1, by omega, by go_num, by rw [HS1.out, show ((j + 1 : Nat) : Int) = (j : Int) + 1 by omega]⟩
        case measure => simp [intOf]; omega
      · have he : (j : Int) = r := by omega
        have HE : Hid (stI ((j : Int) + 400 * q) = stI (r + 400 * q)) := by show _ = _; rw [he]
        generalize stI ((j : Int) + 400 * q) = a at *
        clear he
        go_wp2
        go_ret
        exact ⟨ret_i HE.out, rfl⟩
  · rw [if_neg hneg] at hq0
    subst hq0
    go_enter Tryd.func20, Tryd.ntmps20
    go_wp2
    go_loop [4, 5] (fun d k => ∃ j : Nat, (j : Int) ≤ r ∧ k = .int .i64 j ∧ d = .int .i64 (stI ((j : Int) + 400 * p))) (fun _ k => 400 - (intOf k).toNat)
    case atStart => exact ⟨0, by omega, rfl, by rw [← HZ.out]⟩
    case round =>
      obtain ⟨j, hj, rfl, rfl⟩ := hrel
      have hb1 := HB.out j (by omega) (by omega)
      have hb2 := HB.out (j + 1) (by omega) (by omega)
      have hs := HS.out j
      have HS1 := Lib.hid hs
      obtain ⟨hb1a, hb1b⟩ := hb1
      rw [← hs] at hb2
      obtain ⟨hb2a, hb2b⟩ := hb2
      clear hs
      by_cases hlt : (j : Int) < r
      · generalize stI ((j : Int) + 400 * p) = a at *
        go_wp2_with (go_at_call 21; refine (hL.out _ _).mono ?_; rintro e w' ⟨rfl, rfl⟩)
        go_round
        case rel => exact ⟨j + 1, by omega, by go_num, by rw [HS1.out, show ((j + 1 : Nat) : Int) = (j : Int) + 1 by omega]⟩
        case measure => simp [intOf]; omega
      · have he : (j : Int) = r := by omega
        have HE : Hid (stI ((j : Int) + 400 * p) = stI (r + 400 * p)) := by show _ = _; rw [he]
        generalize stI ((j : Int) + 400 * p) = a at *
        clear he
        go_wp2
        go_ret
        exact ⟨ret_i HE.out, rfl⟩

set_option maxHeartbeats 1600000 in
theorem ofR_any (d : Int) (w : World) (h0 : -9223372036854775808 ≤ d) (h1 : d ≤ 9223372036854775807) :
    Calls Tryd.prog 16 #[.int .i64 d] w fun e w' => e = .returned (.tuple #[.int .i64 (yrOf d), .bool (yr (yrOf d))]) ∧ w = w' := by
  obtain ⟨t1, t2, t3, t4, t5⟩ := tdm d 146097 (by omega)
  have hL : Hid (∀ k w, Calls Tryd.prog 21 #[.int .i64 k] w fun e w' => e = .returned (.int .i64 (lenI k)) ∧ w = w') := fun k w => lenR_any k w
  obtain ⟨q, hq⟩ : ∃ q, d / 146097 = q := ⟨_, rfl⟩
  obtain ⟨r, hr⟩ : ∃ r, d - q * 146097 = r := ⟨_, rfl⟩
  have hmod : d % 146097 = r := by have := Int.mul_ediv_add_emod d 146097; omega
  have hr0 : 0 ≤ r := by have := Int.emod_nonneg d (show (146097 : Int) ≠ 0 by omega); omega
  have hr1 : r < 146097 := by have := Int.emod_lt_of_pos d (show (0 : Int) < 146097 by omega); omega
  have hqb : -63132000000000 ≤ q ∧ q ≤ 63132000000000 := by omega
  obtain ⟨Y, hY⟩ : ∃ Y, srch 400 r 0 = Y := ⟨_, rfl⟩
  have HY : Hid (srch 400 r 0 = Y) := hY
  have HD : Hid (yrOf d = 400 * q + Y) := by show _ = _; unfold yrOf; rw [hq, hmod, hY]
  have hq0 : (if d.tmod 146097 < 0 then d.tdiv 146097 - 1 else d.tdiv 146097) = q := by
    split
    · rename_i h; rw [← t2 h]; exact hq
    · rename_i h; rw [← t3 (by omega)]; exact hq
  obtain ⟨p, hp⟩ : ∃ p, d.tdiv 146097 = p := ⟨_, rfl⟩
  obtain ⟨m, hm⟩ : ∃ m, d.tmod 146097 = m := ⟨_, rfl⟩
  rw [hp, hm] at hq0
  have hpb : -63132000000000 ≤ p ∧ p ≤ 63132000000000 := by omega
  clear t1 t2 t3 t4 t5 hq hmod hY
  by_cases hneg : m < 0
  · rw [if_pos hneg] at hq0
    have hw : wrap64 (d - wrap64 (q * 146097)) = r := by rw [← hr]; go_arith
    go_enter Tryd.func16, Tryd.ntmps16
    go_wp2
    generalize wrap64 (q * 146097) = z at *
    go_loop [5, 6] (fun l k => ∃ (j : Nat) (x : Int), j ≤ 399 ∧ 0 ≤ x ∧ x ≤ 146097 ∧ k = .int .i64 j ∧ l = .int .i64 x ∧ Hid (srch (400 - j) x j = Y ∧ x + stI j < stI 400)) (fun _ k => 400 - (intOf k).toNat)
    case atStart => exact ⟨0, r, by omega, hr0, by omega, rfl, by first | rfl | (congr 1; done) | (congr 1; omega), ⟨HY.out, by rw [show ((0 : Nat) : Int) = 0 by rfl, stI_zero, show stI 400 = 146097 by decide]; omega⟩⟩
    case round =>
      obtain ⟨j, x, hj, hx0, hx1, rfl, rfl, hI⟩ := hrel
      clear hw
      obtain ⟨hI1, hI2⟩ := hI.out
      have hs := stI_succ (j : Int)
      have hl := lenI_bd (j : Int)
      obtain ⟨hla, hlb⟩ := hl
      rw [show 400 - j = (399 - j) + 1 by omega] at hI1
      simp only [srch] at hI1
      by_cases hlt : lenI (j : Int) ≤ x
      · rw [if_pos hlt] at hI1
        have hj2 : j + 1 ≤ 399 := by
          rcases Nat.lt_or_ge (j + 1) 400 with h | h
          · omega
          · exfalso
            have : ((j : Int) + 1) = 400 := by omega
            rw [this] at hs; omega
        have HI : Hid (srch (400 - (j + 1)) (x - lenI (j : Int)) ((j + 1 : Nat) : Int) = Y ∧ (x - lenI (j : Int)) + stI ((j + 1 : Nat) : Int) < stI 400) := by
          rw [show ((j + 1 : Nat) : Int) = (j : Int) + 1 by omega]
          exact ⟨by rw [show 400 - (j + 1) = 399 - j by omega]; exact hI1, by omega⟩
        clear hI hI1 hI2 hs
        go_wp2_with (go_at_call 21; refine (hL.out _ _).mono ?_; rintro e w' ⟨rfl, rfl⟩)
        go_round
        case rel => exact ⟨j + 1, x - lenI (j : Int), hj2, by omega, by omega, by go_num, rfl, HI⟩
        case measure => simp [intOf]; omega
      · rw [if_neg hlt] at hI1
        have HJ : Hid ((j : Int) = Y) := hI1
        have HYR : Hid (400 * q + (j : Int) = yrOf d ∧ (yr (400 * q + (j : Int)) = yr (yrOf d))) := by
          have : 400 * q + (j : Int) = yrOf d := by rw [HJ.out, HD.out]
          exact ⟨this, by rw [this]⟩
        clear hI hI1 hI2 hs
        go_wp2_with (first
          | (go_at_call 21; refine (hL.out _ _).mono ?_; rintro e w' ⟨rfl, rfl⟩)
          | (go_at_call 19; refine (isR_any _ _).mono ?_; rintro e w' ⟨rfl, rfl⟩))
        go_ret2
        exact ⟨ret_q HYR.out.1 HYR.out.2, rfl⟩
  · rw [if_neg hneg] at hq0
    subst hq0
    have hw : wrap64 (d - wrap64 (p * 146097)) = r := by rw [← hr]; go_arith
    go_enter Tryd.func16, Tryd.ntmps16
    go_wp2
    generalize wrap64 (p * 146097) = z at *
    go_loop [5, 6] (fun l k => ∃ (j : Nat) (x : Int), j ≤ 399 ∧ 0 ≤ x ∧ x ≤ 146097 ∧ k = .int .i64 j ∧ l = .int .i64 x ∧ Hid (srch (400 - j) x j = Y ∧ x + stI j < stI 400)) (fun _ k => 400 - (intOf k).toNat)
    case atStart => exact ⟨0, r, by omega, hr0, by omega, rfl, by first | rfl | (congr 1; done) | (congr 1; omega), ⟨HY.out, by rw [show ((0 : Nat) : Int) = 0 by rfl, stI_zero, show stI 400 = 146097 by decide]; omega⟩⟩
    case round =>
      obtain ⟨j, x, hj, hx0, hx1, rfl, rfl, hI⟩ := hrel
      clear hw
      obtain ⟨hI1, hI2⟩ := hI.out
      have hs := stI_succ (j : Int)
      have hl := lenI_bd (j : Int)
      obtain ⟨hla, hlb⟩ := hl
      rw [show 400 - j = (399 - j) + 1 by omega] at hI1
      simp only [srch] at hI1
      by_cases hlt : lenI (j : Int) ≤ x
      · rw [if_pos hlt] at hI1
        have hj2 : j + 1 ≤ 399 := by
          rcases Nat.lt_or_ge (j + 1) 400 with h | h
          · omega
          · exfalso
            have : ((j : Int) + 1) = 400 := by omega
            rw [this] at hs; omega
        have HI : Hid (srch (400 - (j + 1)) (x - lenI (j : Int)) ((j + 1 : Nat) : Int) = Y ∧ (x - lenI (j : Int)) + stI ((j + 1 : Nat) : Int) < stI 400) := by
          rw [show ((j + 1 : Nat) : Int) = (j : Int) + 1 by omega]
          exact ⟨by rw [show 400 - (j + 1) = 399 - j by omega]; exact hI1, by omega⟩
        clear hI hI1 hI2 hs
        go_wp2_with (go_at_call 21; refine (hL.out _ _).mono ?_; rintro e w' ⟨rfl, rfl⟩)
        go_round
        case rel => exact ⟨j + 1, x - lenI (j : Int), hj2, by omega, by omega, by go_num, rfl, HI⟩
        case measure => simp [intOf]; omega
      · rw [if_neg hlt] at hI1
        have HJ : Hid ((j : Int) = Y) := hI1
        have HYR : Hid (400 * p + (j : Int) = yrOf d ∧ (yr (400 * p + (j : Int)) = yr (yrOf d))) := by
          have : 400 * p + (j : Int) = yrOf d := by rw [HJ.out, HD.out]
          exact ⟨this, by rw [this]⟩
        clear hI hI1 hI2 hs
        go_wp2_with (first
          | (go_at_call 21; refine (hL.out _ _).mono ?_; rintro e w' ⟨rfl, rfl⟩)
          | (go_at_call 19; refine (isR_any _ _).mono ?_; rintro e w' ⟨rfl, rfl⟩))
        go_ret2
        exact ⟨ret_q HYR.out.1 HYR.out.2, rfl⟩
end Go.Proofs.YtcabcmlnmpfhkaaDoor
