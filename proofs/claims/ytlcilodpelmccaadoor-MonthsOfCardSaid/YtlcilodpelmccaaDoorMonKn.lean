/- The law MonthsKnown: it returns true. -/
import Derived.Test.YtlcilodpelmccaaDoorMonOf
namespace Go.Proofs.YtlcilodpelmccaaDoor.mon
open Go.RowKit

theorem mfst_next {y m : Int} (h0 : 1 ≤ m) (h1 : m < 12) : mfst y (m + 1) = mfst y m + mlen y m := by
  unfold mfst
  rw [show (m + 1 - 1).toNat = (m - 1).toNat + 1 by omega]
  simp only [mst]
  rw [show (((m - 1).toNat : Nat) : Int) + 1 = m by omega]
theorem mfst_year {y : Int} : mfst (y + 1) 1 = mfst y 12 + mlen y 12 := by
  have h := mst_12 y
  unfold mfst
  rw [show ((1 : Int) - 1).toNat = 0 by rfl, show ((12 : Int) - 1).toNat = 11 by rfl]
  have h2 : mst y 12 = mst y 11 + mlen y (((11 : Nat) : Int) + 1) := rfl
  rw [show ((11 : Nat) : Int) + 1 = 12 by rfl] at h2
  rw [← h2, h]
  rfl

set_option maxRecDepth 100000 in
set_option maxHeartbeats 8000000 in
theorem known_law (w W : World) (h : Ok w W) :
    Calls Tryd.prog 7 #[] W fun e w' => e = .returned (.bool true) ∧ Ok w w' := by
  have HST : Hid (∀ y X, Ok w X → -25000000000000000 ≤ y → y ≤ 25000000000000000 → Calls Tryd.prog 25 #[.int .i64 y] X fun x w' => x = .returned (.int .i64 (stI y)) ∧ Ok w w') := fun y X hX h0 h1 => c_same hX (stR_any y X h0 h1)
  go_enter Tryd.func7, Tryd.ntmps7
  go_wp2_with (go_at_call 25; refine (HST.out _ _ (by assumption) (by omega) (by omega)).mono ?_; rintro e w' ⟨rfl, hk⟩)
  go_loopw [1, 2, 3, 4] (fun yv mv dv iv wr => ∃ (I : Nat) (y m : Int), I ≤ 4800 ∧ 12 * y + (m - 1) = (I : Int) - 1200 ∧ 1 ≤ m ∧ m ≤ 12 ∧ yv = .int .i64 y ∧ mv = .int .i64 m ∧ dv = .int .i64 (mfst y m) ∧ iv = .int .i64 I ∧ Ok w wr) (fun _ _ _ iv _ => 4800 - (intOf iv).toNat)
  case atStart => exact ⟨0, -100, 1, by omega, by omega, by omega, by omega, rfl, rfl, by first | rfl | (congr 1), rfl, by assumption⟩
  case round =>
    obtain ⟨I, y, m, hI, hix, m0, m1, rfl, rfl, rfl, rfl, ho⟩ := hrel
    have y0 : -100 ≤ y := by omega
    have y1 : y ≤ 300 := by omega
    by_cases hlt : I < 4800
    · have hlt2 : (I : Int) < 4800 := by omega
      have hyr : yr y = true := (yr_iff _).2 (by omega)
      have hmo : mo m = true := (mo_iff _).2 ⟨m0, m1⟩
      have hE := mE_in hyr hmo
      have hE1 : mE (-100) 1 = 0 := by decide
      obtain ⟨M, hM⟩ : ∃ M : Nat, m = (M : Int) + 1 := ⟨(m - 1).toNat, by omega⟩
      obtain ⟨b1, b2⟩ := mst_bd y M (by omega) ⟨by omega, by omega⟩
      have hf : mfst y m = mst y M := by rw [hM, mfst_of]
      have hl := mlen_bd y m
      have hsu : mst y (M + 1) = mst y M + mlen y m := by simp only [mst]; rw [hM]
      obtain ⟨o1, o2⟩ := mo_eq (d := mfst y m) (y := y) (n := M + 1) (by omega) (by omega) (by rw [hf, Nat.add_sub_cancel]; exact Int.le_refl _) (by rw [hf, hsu]; omega)
      obtain ⟨a1, a2⟩ := ad_eq (y := -100) (m := 1) (k := (I : Int)) (z := y) (n := m) (by unfold ixI; omega) m0 m1
      rw [← hf] at b1 b2
      have KS : Hid (∀ X, Ok w X → Calls Tryd.prog 9 #[.int .i64 y, .int .i64 m] X fun x w' => x = .returned (.tuple #[.int .i64 (mfst y m), .int .i64 0]) ∧ Ok w w') := fun X hX => c_start hX y m (by unfold I64; omega) (by unfold I64; omega) (mV_in hyr hmo _) hE
      have KO : Hid (∀ X, Ok w X → Calls Tryd.prog 19 #[.int .i64 (mfst y m)] X fun x w' => x = .returned (.tuple #[.int .i64 y, .int .i64 m, .int .i64 0]) ∧ Ok w w') := fun X hX => c_of hX (mfst y m) (by unfold I64; omega) (by unfold oV; rw [o1, if_pos hyr]) (by unfold oV; rw [o1, o2, if_pos hyr, hM]; omega) (by rw [o1]; exact yE_in hyr)
      have KA : Hid (∀ X, Ok w X → Calls Tryd.prog 17 #[.int .i64 (-100), .int .i64 1, .int .i64 I] X fun x w' => x = .returned (.tuple #[.int .i64 y, .int .i64 m, .int .i64 0]) ∧ Ok w w') := fun X hX => c_add hX (-100) 1 (by unfold I64; omega) (by unfold I64; omega) I (by unfold I64; omega) (by unfold aV; rw [a1, if_pos ⟨hE1, hyr⟩]) (by unfold aV; rw [a1, a2, if_pos ⟨hE1, hyr⟩]) (by unfold aE; rw [a1, if_pos hE1, if_pos hyr])
      have KB : Hid (∀ X, Ok w X → Calls Tryd.prog 24 #[.int .i64 (-100), .int .i64 1, .int .i64 y, .int .i64 m] X fun x w' => x = .returned (.tuple #[.int .i64 I, .int .i64 0]) ∧ Ok w w') := fun X hX => c_between hX (-100) 1 (by unfold I64; omega) (by unfold I64; omega) y m (by unfold I64; omega) (by unfold I64; omega) (by unfold bV; rw [if_pos ⟨hE1, hE⟩]; omega) (by unfold bE; rw [if_pos hE1]; exact hE)
      have RL : Hid (∀ X, Ok w X → Calls Tryd.prog 14 #[.int .i64 y, .int .i64 m] X fun x w' => x = .returned (.int .i64 (mlen y m)) ∧ Ok w w') := fun X hX => c_same hX (mlenR_any y m X)
      obtain ⟨hl0, hl1⟩ := hl
      have HN : Hid (I + 1 ≤ 4800) := by show _ ≤ _; omega
      by_cases h12 : m = 12
      · have HF : Hid (mfst y m + mlen y m = mfst (y + 1) 1) := by show _ = _; rw [h12, mfst_year]
        have g1 : (m + 1 == 13) = true := by rw [beq_iff_eq]; omega
        have HX : Hid (12 * (y + 1) + ((1 : Int) - 1) = ((I + 1 : Nat) : Int) - 1200) := by show _ = _; omega
        clear hyr hmo hE hE1 hM hf hsu o1 o2 a1 a2 hix h12 hlt hI
        generalize mfst y m = S at *
        generalize mlen y m = L at *
        go_wp2_with (first
          | (go_at_call 9; refine (KS.out _ (by assumption)).mono ?_; rintro e w' ⟨rfl, hk⟩)
          | (go_at_call 19; refine (KO.out _ (by assumption)).mono ?_; rintro e w' ⟨rfl, hk⟩)
          | (go_at_call 17; refine (KA.out _ (by assumption)).mono ?_; rintro e w' ⟨rfl, hk⟩)
          | (go_at_call 24; refine (KB.out _ (by assumption)).mono ?_; rintro e w' ⟨rfl, hk⟩)
          | (go_at_call 14; refine (RL.out _ (by assumption)).mono ?_; rintro e w' ⟨rfl, hk⟩)
          | (go_at_call 18; refine (num_t _ _ _ _ (by rfl) (by rfl)).mono ?_; rintro e w' ⟨rfl, rfl⟩)
          | (go_at_call 22; refine (mon_t _ _ _ _ _ _ (by rfl) (by rfl) (by rfl)).mono ?_; rintro e w' ⟨rfl, rfl⟩))
        go_roundw
        case rel => exact ⟨I + 1, y + 1, 1, HN.out, HX.out, by omega, by omega, rfl, rfl, by rw [HF.out], by first | rfl | go_num, by assumption⟩
        case measure => simp [intOf]; omega
      · have h12' : m < 12 := by omega
        have HF : Hid (mfst y m + mlen y m = mfst y (m + 1)) := by show _ = _; rw [mfst_next m0 h12']
        have g1 : (m + 1 == 13) = false := by rw [beq_eq_false_iff_ne]; omega
        have HX : Hid (12 * y + (m + 1 - 1) = ((I + 1 : Nat) : Int) - 1200) := by show _ = _; omega
        clear hyr hmo hE hE1 hM hf hsu o1 o2 a1 a2 hix h12 hlt hI
        generalize mfst y m = S at *
        generalize mlen y m = L at *
        go_wp2_with (first
          | (go_at_call 9; refine (KS.out _ (by assumption)).mono ?_; rintro e w' ⟨rfl, hk⟩)
          | (go_at_call 19; refine (KO.out _ (by assumption)).mono ?_; rintro e w' ⟨rfl, hk⟩)
          | (go_at_call 17; refine (KA.out _ (by assumption)).mono ?_; rintro e w' ⟨rfl, hk⟩)
          | (go_at_call 24; refine (KB.out _ (by assumption)).mono ?_; rintro e w' ⟨rfl, hk⟩)
          | (go_at_call 14; refine (RL.out _ (by assumption)).mono ?_; rintro e w' ⟨rfl, hk⟩)
          | (go_at_call 18; refine (num_t _ _ _ _ (by rfl) (by rfl)).mono ?_; rintro e w' ⟨rfl, rfl⟩)
          | (go_at_call 22; refine (mon_t _ _ _ _ _ _ (by rfl) (by rfl) (by rfl)).mono ?_; rintro e w' ⟨rfl, rfl⟩))
        go_roundw
        case rel => exact ⟨I + 1, y, m + 1, HN.out, HX.out, by omega, by omega, rfl, rfl, by rw [HF.out], by first | rfl | go_num, by assumption⟩
        case measure => simp [intOf]; omega
    · have hlt2 : ¬ (I : Int) < 4800 := by omega
      have hy : y = 300 := by omega
      have hm : m = 1 := by omega
      subst hy hm
      have HS : Hid (mfst 300 1 = stI 300) := by show _ = _; decide
      rw [HS.out]
      clear hlt hI hix m0 m1 y0 y1
      go_wp2_with (first
        | (go_at_call 17; ((with_reducible refine (c_add (by assumption) (-10000000000000000) 1 (by unfold I64; omega) (by unfold I64; omega) 240000000000000011 (by unfold I64; omega) (z := 10000000000000000) (n := 12) (e := 0) (by decide +kernel) (by decide +kernel) (by decide +kernel)).mono ?_); rintro e w' ⟨rfl, hk⟩))
        | (go_at_call 17; ((with_reducible refine (c_add (by assumption) 10000000000000000 12 (by unfold I64; omega) (by unfold I64; omega) (-9223372036854775808) (by unfold I64; omega) (z := 0) (n := 0) (e := 6) (by decide +kernel) (by decide +kernel) (by decide +kernel)).mono ?_); rintro e w' ⟨rfl, hk⟩))
        | (go_at_call 17; ((with_reducible refine (c_add (by assumption) (-10000000000000000) 1 (by unfold I64; omega) (by unfold I64; omega) (-1) (by unfold I64; omega) (z := 0) (n := 0) (e := 6) (by decide +kernel) (by decide +kernel) (by decide +kernel)).mono ?_); rintro e w' ⟨rfl, hk⟩))
        | (go_at_call 25; refine (HST.out _ _ (by assumption) (by omega) (by omega)).mono ?_; rintro e w' ⟨rfl, hk⟩)
        | (go_at_call 22; refine (mon_t _ _ _ _ _ _ (by rfl) (by rfl) (by rfl)).mono ?_; rintro e w' ⟨rfl, rfl⟩)
        | (go_at_call 13; refine (lives_t w _ (by assumption)).mono ?_; rintro e w' ⟨rfl, hk⟩))
      go_ret
      exact ⟨rfl, by assumption⟩
end Go.Proofs.YtlcilodpelmccaaDoor.mon
