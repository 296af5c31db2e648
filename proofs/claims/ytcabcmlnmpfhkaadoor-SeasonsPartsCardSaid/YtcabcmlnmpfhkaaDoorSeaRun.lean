/- The reference of seasons (circaref07): Run. -/
import Derived.Test.YtcabcmlnmpfhkaaDoorSeaB
namespace Go.Proofs.YtcabcmlnmpfhkaaDoor
open Go.RowKit

theorem srun_zero (y c : Int) (w : World) (k : Int) (hk : k ≠ 0) (hE : sE y c = k) (h : Calls Tryd.prog 11 #[.int .i64 y, .int .i64 c] w fun e w' => e = .returned (.tuple #[R4 0 0 0 0, .int .i64 k]) ∧ Below w.heap.size w w') :
    Calls Tryd.prog 11 #[.int .i64 y, .int .i64 c] w fun e w' => e = .returned (.tuple #[R4 0 (rV y c (sLo y c)) 0 (rV y c (sHi y c)), .int .i64 (sE y c)]) ∧ Below w.heap.size w w' := by
  have hv : ∀ v, rV y c v = 0 := fun v => if_neg (by rw [hE]; exact hk)
  rw [hv, hv, hE]; exact h
theorem srun_code (y c : Int) (w : World) (hc : isC c = false) :
    Calls Tryd.prog 11 #[.int .i64 y, .int .i64 c] w fun e w' => e = .returned (.tuple #[R4 0 0 0 0, .int .i64 7]) ∧ Below w.heap.size w w' := by
  have HM := Lib.hid (smonR_any c)
  rw [(sF_no hc).1, (sF_no hc).2] at HM
  have hK := (run_new (w := w) (Below.refl _ _)).2.2
  have hB := (run_new (w := w) (Below.refl _ _)).1
  have HB := Lib.hid hB
  have HK := Lib.hid hK
  obtain ⟨t0, t1, t2, t3⟩ := hK.four
  have z0 := hK.frozen 0
  have z1 := hK.frozen 1
  have z2 := hK.frozen 2
  have z3 := hK.frozen 3
  clear hc hB hK
  go_enter Tryd.func11, Tryd.ntmps11
  go_upto_region 1 with fail
  generalize (w.alloc (Obj.cells #[Value.int IntKind.i8 0, Value.int IntKind.i64 0, Value.int IntKind.i8 0, Value.int IntKind.i64 0] 32)) = V at *
  go_upto_region 3 with (go_at_call 8; refine (HM.out _).mono ?_; rintro e w' ⟨rfl, rfl⟩)
  go_wp2_with fail
  exact bodyPost_ret (res_run2 rfl rfl rfl (HK.out.store 0 0 0 0).four) rfl ⟨rfl, set4_below HB.out 0 0 0 0⟩
theorem srun_year (y c : Int) (w : World) (hc : isC c = true) (hy : yr y = false) :
    Calls Tryd.prog 11 #[.int .i64 y, .int .i64 c] w fun e w' => e = .returned (.tuple #[R4 0 0 0 0, .int .i64 6]) ∧ Below w.heap.size w w' := by
  have HM := Lib.hid (smonR_any c)
  have HI := Lib.hid (isR_any y)
  obtain ⟨q1, q2, q3, q4, q5⟩ := sFN hc
  rw [hy] at HI
  have hK := (run_new (w := w) (Below.refl _ _)).2.2
  have hB := (run_new (w := w) (Below.refl _ _)).1
  have HB := Lib.hid hB
  have HK := Lib.hid hK
  obtain ⟨t0, t1, t2, t3⟩ := hK.four
  have z0 := hK.frozen 0
  have z1 := hK.frozen 1
  have z2 := hK.frozen 2
  have z3 := hK.frozen 3
  generalize sF c = F at *
  generalize sN c = N at *
  have hN : ((N : Int) == 0) = false := by rw [beq_eq_false_iff_ne]; omega
  clear hc hB hK hy q1 q2 q3 q4 q5
  go_enter Tryd.func11, Tryd.ntmps11
  go_upto_region 1 with fail
  generalize (w.alloc (Obj.cells #[Value.int IntKind.i8 0, Value.int IntKind.i64 0, Value.int IntKind.i8 0, Value.int IntKind.i64 0] 32)) = V at *
  go_upto_region 5 with (first
    | (go_at_call 8; refine (HM.out _).mono ?_; rintro e w' ⟨rfl, rfl⟩)
    | (go_at_call 19; refine (HI.out _).mono ?_; rintro e w' ⟨rfl, rfl⟩))
  go_wp2_with fail
  exact bodyPost_ret (res_run2 rfl rfl rfl (HK.out.store 0 0 0 0).four) rfl ⟨rfl, set4_below HB.out 0 0 0 0⟩
theorem sm_le {y : Int} {j : Nat} (h : j ≤ 12) : sm y j = mst y j := if_pos h
theorem sm_gt {y : Int} {j : Nat} (h : 12 < j) : sm y j = mst (y + 1) (j - 12) := if_neg (by omega)
/-- The end of the months so far. -/
def hiK (y : Int) (F k : Nat) : Int := if k = 0 then 0 else sm y (F - 1 + k) - 1
set_option maxHeartbeats 1600000 in
set_option maxRecDepth 100000 in
theorem srun_in (y c : Int) (w : World) (hc : isC c = true) (hy : yr y = true) :
    Calls Tryd.prog 11 #[.int .i64 y, .int .i64 c] w fun e w' => e = .returned (.tuple #[R4 0 (rV y c (sLo y c)) 0 (rV y c (sHi y c)), .int .i64 (sE y c)]) ∧ Below w.heap.size w w' := by
  have HM := Lib.hid (smonR_any c)
  have HI := Lib.hid (isR_any y)
  have HJ := Lib.hid (isR_any (y + 1))
  obtain ⟨q1, q2, q3, q4, q5⟩ := sFN hc
  have hyb := (yr_iff y).1 hy
  rw [hy] at HI
  have HS : Hid (∀ X, Calls Tryd.prog 25 #[.int .i64 y, .int .i64 (sF c : Nat)] X fun e w' => e = .returned (.int .i64 (sLo y c)) ∧ X = w') := fun X => by
    have := mstR_any y (sF c - 1) X (by omega) (by omega) (by omega)
    rw [show (((sF c - 1 : Nat) : Int) + 1) = ((sF c : Nat) : Int) by omega] at this
    unfold sLo
    rw [sm_le (by omega)]
    exact this
  have HE1 : Hid (∀ k X, sF c + k ≤ 12 → Calls Tryd.prog 26 #[.int .i64 y, .int .i64 (((sF c : Nat) : Int) + (k : Nat))] X fun e w' => e = .returned (.int .i64 (hiK y (sF c) (k + 1))) ∧ X = w') := fun k X hk => by
    have := mendR_any y (sF c + k - 1) X (by omega) (by omega) (by omega)
    rw [show (((sF c + k - 1 : Nat) : Int) + 1) = ((sF c : Nat) : Int) + (k : Nat) by omega] at this
    unfold hiK
    rw [if_neg (by omega), sm_le (by omega), show sF c - 1 + (k + 1) = sF c + k - 1 + 1 by omega]
    exact this
  have HE2 : Hid (∀ k X, 12 < sF c + k → sF c + k ≤ 14 → Calls Tryd.prog 26 #[.int .i64 (y + 1), .int .i64 (((sF c : Nat) : Int) + (k : Nat) - 12)] X fun e w' => e = .returned (.int .i64 (hiK y (sF c) (k + 1))) ∧ X = w') := fun k X hk hk2 => by
    have := mendR_any (y + 1) (sF c + k - 13) X (by omega) (by omega) (by omega)
    rw [show (((sF c + k - 13 : Nat) : Int) + 1) = ((sF c : Nat) : Int) + (k : Nat) - 12 by omega] at this
    unfold hiK
    rw [if_neg (by omega), sm_gt (by omega), show sF c - 1 + (k + 1) - 12 = sF c + k - 13 + 1 by omega]
    exact this
  have HV0 : Hid ((sF c + sN c - 1 ≤ 12 ∨ yr (y + 1) = true) → sE y c = 0 ∧ ∀ v, rV y c v = v) := fun h => by
    have : sE y c = 0 := by
      unfold sE
      rw [if_pos hc, if_pos hy, if_neg]
      rintro ⟨h1, h2⟩
      rcases h with h | h
      · omega
      · rw [h] at h2; cases h2
    exact ⟨this, fun v => if_pos this⟩
  have HV6 : Hid (12 < sF c + sN c - 1 → yr (y + 1) = false → sE y c = 6 ∧ ∀ v, rV y c v = 0) := fun h1 h2 => by
    have : sE y c = 6 := by unfold sE; rw [if_pos hc, if_pos hy, if_pos ⟨h1, h2⟩]
    exact ⟨this, fun v => if_neg (by rw [this]; decide)⟩
  have HH : Hid (hiK y (sF c) (sN c) = sHi y c) := by
    show _ = _
    unfold hiK sHi
    rw [if_neg (by omega)]
  have hK := (run_new (w := w) (Below.refl _ _)).2.2
  have hB := (run_new (w := w) (Below.refl _ _)).1
  have HB := Lib.hid hB
  have HK := Lib.hid hK
  obtain ⟨t0, t1, t2, t3⟩ := hK.four
  have z0 := hK.frozen 0
  have z1 := hK.frozen 1
  have z2 := hK.frozen 2
  have z3 := hK.frozen 3
  have y0 : -10000000000000000 ≤ y := hyb.1
  have y1 : y ≤ 10000000000000000 := hyb.2
  have HH0 : Hid (hiK y (sF c) 0 = 0) := rfl
  generalize sLo y c = LO at *
  generalize sHi y c = HI2 at *
  generalize sE y c = E at *
  generalize sF c = F at *
  generalize sN c = N at *
  have hN : ((N : Int) == 0) = false := by rw [beq_eq_false_iff_ne]; omega
  clear hc hB hK hy hyb
  go_enter Tryd.func11, Tryd.ntmps11
  go_upto_region 1 with fail
  generalize (w.alloc (Obj.cells #[Value.int IntKind.i8 0, Value.int IntKind.i64 0, Value.int IntKind.i8 0, Value.int IntKind.i64 0] 32)) = V at *
  go_upto_region 6 with (first
    | (go_at_call 8; refine (HM.out _).mono ?_; rintro e w' ⟨rfl, rfl⟩)
    | (go_at_call 19; refine (HI.out _).mono ?_; rintro e w' ⟨rfl, rfl⟩))
  go_wp2_with (go_at_call 25; refine (HS.out _).mono ?_; rintro e w' ⟨rfl, rfl⟩)
  clear HM HS hN
  go_loop [9, 10] (fun h i => ∃ k : Nat, k ≤ N ∧ i = .int .i64 k ∧ h = .int .i64 (hiK y F k) ∧ (1 ≤ k → 12 < F + k - 1 → yr (y + 1) = true)) (fun _ i => N - (intOf i).toNat)
  case atStart => exact ⟨0, by omega, rfl, by rw [HH0.out], by omega⟩
  case round =>
    obtain ⟨k, hk, rfl, rfl, hok⟩ := hrel
    by_cases hkN : k < N
    · have hl : (k : Int) < (N : Int) := by omega
      by_cases h12 : F + k ≤ 12
      · have hm : ¬ 12 < (F : Int) + (k : Int) := by omega
        go_wp2_with (first
          | (go_at_call 19; refine (HI.out _).mono ?_; rintro e w' ⟨rfl, rfl⟩)
          | (go_at_call 26; refine (HE1.out k _ h12).mono ?_; rintro e w' ⟨rfl, rfl⟩))
        go_round
        case rel => exact ⟨k + 1, by omega, by go_num, rfl, by omega⟩
        case measure => simp [intOf]; omega
      · have hm : 12 < (F : Int) + (k : Int) := by omega
        have hf : ¬ 12 < F + k - 1 ∨ 12 < F + k - 1 := by omega
        cases hy2 : yr (y + 1) with
        | false =>
          obtain ⟨e1, e2⟩ := HV6.out (by omega) hy2
          have HE6 := Lib.hid e1
          have HV := Lib.hid e2
          rw [hy2] at HJ
          clear e1 e2 hy2 hok
          go_upto_region 14 with (go_at_call 19; refine (HJ.out _).mono ?_; rintro e w' ⟨rfl, rfl⟩)
          go_wp2_with fail
          exact bodyPost_ret (res_run2 rfl rfl rfl (HK.out.store 0 0 0 0).four) rfl ⟨by rw [HE6.out, HV.out, HV.out]; rfl, set4_below HB.out 0 0 0 0⟩
        | true =>
          rw [hy2] at HJ
          go_wp2_with (first
            | (go_at_call 19; refine (HJ.out _).mono ?_; rintro e w' ⟨rfl, rfl⟩)
            | (go_at_call 26; refine (HE2.out k _ (by omega) (by omega)).mono ?_; rintro e w' ⟨rfl, rfl⟩))
          go_round
          case rel => exact ⟨k + 1, by omega, by go_num, rfl, fun _ _ => by first | exact hy2 | trivial⟩
          case measure => simp [intOf]; omega
    · obtain rfl : k = N := by omega
      have hl : ¬ (k : Int) < (k : Int) := by omega
      obtain ⟨e1, e2⟩ := HV0.out (by
        rcases Nat.lt_or_ge 12 (F + k - 1) with h | h
        · exact .inr (hok (by omega) h)
        · exact .inl h)
      have HE6 := Lib.hid e1
      have HV := Lib.hid e2
      have HH' := Lib.hid HH.out
      clear e1 e2 hok HH hkN
      generalize hiK y F k = HK2 at *
      go_wp2_with fail
      exact bodyPost_ret (res_run2 rfl rfl rfl (HK.out.store 0 LO 0 HK2).four) rfl ⟨by rw [HE6.out, HV.out, HV.out, ← HH'.out]; rfl, set4_below HB.out 0 LO 0 HK2⟩
theorem srunR_any (y c : Int) (w : World) :
    Calls Tryd.prog 11 #[.int .i64 y, .int .i64 c] w fun e w' => e = .returned (.tuple #[R4 0 (rV y c (sLo y c)) 0 (rV y c (sHi y c)), .int .i64 (sE y c)]) ∧ Below w.heap.size w w' := by
  cases hc : isC c
  · exact srun_zero y c w 7 (by decide) (by unfold sE; rw [hc]; rfl) (srun_code y c w hc)
  · cases hy : yr y
    · exact srun_zero y c w 6 (by decide) (by unfold sE; rw [hc, hy]; rfl) (srun_year y c w hc hy)
    · exact srun_in y c w hc hy
end Go.Proofs.YtcabcmlnmpfhkaaDoor
