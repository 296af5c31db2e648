/- The laws MonthsDays and MonthsOf: they return true for every number. -/
import Derived.Test.YtlcilodpelmccaaDoorMonLives
namespace Go.Proofs.YtlcilodpelmccaaDoor.mon
open Go.RowKit

theorem cr_chk {w X : World} (h : Ok w X) (y m : Int) {e : Int} (he : mE y m = e) : Calls Tryd.prog 11 #[.int .i64 y, .int .i64 m] X fun x w' => x = .returned (.int .i64 e) ∧ Ok w w' := by
  subst he; exact c_same h (mchkR_any y m X)
theorem i64_of {n : Int} (h0 : -9223372036854775808 ≤ n) (h1 : n ≤ 9223372036854775807) : I64 n := ⟨h0, h1⟩
theorem mfst_of (y : Int) (N : Nat) : mfst y ((N : Int) + 1) = mst y N := by unfold mfst; rw [show ((N : Int) + 1 - 1).toNat = N by omega]
theorem mlst_of (y : Int) (N : Nat) : mlst y ((N : Int) + 1) = mst y (N + 1) - 1 := by unfold mlst; rw [show ((N : Int) + 1).toNat = N + 1 by omega]

set_option maxRecDepth 100000 in
set_option maxHeartbeats 8000000 in
theorem days_law (y m : Int) (w W : World) (y0 : -9223372036854775808 ≤ y) (y1 : y ≤ 9223372036854775807) (m0 : -9223372036854775808 ≤ m) (m1 : m ≤ 9223372036854775807) (h : Ok w W) :
    Calls Tryd.prog 3 #[.int .i64 y, .int .i64 m] W fun e w' => e = .returned (.bool true) ∧ Ok w w' := by
  have hy := i64_of y0 y1
  have hm := i64_of m0 m1
  by_cases hE : mE y m = 0
  · obtain ⟨ya, ma⟩ := mE_zero.1 hE
    obtain ⟨r0, r1⟩ := (yr_iff _).1 ya
    obtain ⟨s0, s1⟩ := (mo_iff _).1 ma
    obtain ⟨N, hN⟩ : ∃ N : Nat, m = (N : Int) + 1 := ⟨(m - 1).toNat, by omega⟩
    have hN12 : N < 12 := by omega
    obtain ⟨b1, b2⟩ := mst_bd y (N + 1) (by omega) ⟨by omega, by omega⟩
    have KC : Hid (∀ X, Ok w X → Calls Tryd.prog 12 #[.int .i64 y, .int .i64 m] X fun x w' => x = .returned (.int .i64 0) ∧ Ok w w') := fun X hX => c_check hX y m hy hm hE
    have RC : Hid (∀ X, Ok w X → Calls Tryd.prog 11 #[.int .i64 y, .int .i64 m] X fun x w' => x = .returned (.int .i64 0) ∧ Ok w w') := fun X hX => cr_chk hX y m hE
    have KL : Hid (∀ X, Ok w X → Calls Tryd.prog 8 #[.int .i64 y, .int .i64 m] X fun x w' => x = .returned (.tuple #[.int .i64 (mlen y m), .int .i64 0]) ∧ Ok w w') := fun X hX => c_len hX y m hy hm (mV_in ya ma _) hE
    have RL : Hid (∀ X, Ok w X → Calls Tryd.prog 14 #[.int .i64 y, .int .i64 m] X fun x w' => x = .returned (.int .i64 (mlen y m)) ∧ Ok w w') := fun X hX => c_same hX (mlenR_any y m X)
    have KS : Hid (∀ X a b, Ok w X → a = y → b = m → Calls Tryd.prog 9 #[.int .i64 a, .int .i64 b] X fun x w' => x = .returned (.tuple #[.int .i64 (mst y N), .int .i64 0]) ∧ Ok w w') := fun X a b hX ha hb => by rw [ha, hb]; exact c_start hX y m hy hm (by rw [mV_in ya ma, hN, mfst_of]) hE
    have RS : Hid (∀ X, Ok w X → Calls Tryd.prog 15 #[.int .i64 y, .int .i64 m] X fun x w' => x = .returned (.int .i64 (mst y N)) ∧ Ok w w') := fun X hX => by rw [hN]; exact c_same hX (mstR_any y N X hN12 (by omega) (by omega))
    have KE : Hid (∀ X, Ok w X → Calls Tryd.prog 10 #[.int .i64 y, .int .i64 m] X fun x w' => x = .returned (.tuple #[.int .i64 (mst y (N + 1) - 1), .int .i64 0]) ∧ Ok w w') := fun X hX => c_end hX y m hy hm (by rw [mV_in ya ma, hN, mlst_of]) hE
    have RE : Hid (∀ X, Ok w X → Calls Tryd.prog 16 #[.int .i64 y, .int .i64 m] X fun x w' => x = .returned (.int .i64 (mst y (N + 1) - 1)) ∧ Ok w w') := fun X hX => by rw [hN]; exact c_same hX (mendR_any y N X hN12 (by omega) (by omega))
    have HM : (∃ z k : Int, (z = y ∨ z = y + 1) ∧ 1 ≤ k ∧ k ≤ 12 ∧ Hid (∀ X, Ok w X → Calls Tryd.prog 17 #[.int .i64 y, .int .i64 m, .int .i64 1] X fun x w' => x = .returned (.tuple #[.int .i64 z, .int .i64 k, .int .i64 0]) ∧ Ok w w') ∧
          Hid (∀ X a b, Ok w X → a = z → b = k → Calls Tryd.prog 9 #[.int .i64 a, .int .i64 b] X fun x w' => x = .returned (.tuple #[.int .i64 (mst y (N + 1)), .int .i64 0]) ∧ Ok w w')) ∨
        (y = 10000000000000000 ∧ m = 12 ∧ Hid (∀ X, Ok w X → Calls Tryd.prog 17 #[.int .i64 y, .int .i64 m, .int .i64 1] X fun x w' => x = .returned (.tuple #[.int .i64 0, .int .i64 0, .int .i64 6]) ∧ Ok w w')) := by
      by_cases h12 : m < 12
      · left
        obtain ⟨a1, a2⟩ := ad_eq (y := y) (m := m) (k := 1) (z := y) (n := m + 1) (by unfold ixI; omega) (by omega) (by omega)
        refine ⟨y, m + 1, .inl rfl, by omega, by omega, fun X hX => c_add hX y m hy hm 1 (by unfold I64; omega) ?_ ?_ ?_, fun X a b hX ha hb => ?_⟩
        · unfold aV; rw [a1, if_pos ⟨hE, ya⟩]
        · unfold aV; rw [a1, a2, if_pos ⟨hE, ya⟩]
        · unfold aE; rw [a1, if_pos hE, if_pos ya]
        · rw [ha, hb]
          have mb : mo (m + 1) = true := (mo_iff _).2 (by omega)
          exact c_start hX y (m + 1) hy (by unfold I64; omega) (by rw [mV_in ya mb, hN, show (N : Int) + 1 + 1 = ((N + 1 : Nat) : Int) + 1 by omega, mfst_of]) (mE_in ya mb)
      · obtain ⟨a1, a2⟩ := ad_eq (y := y) (m := m) (k := 1) (z := y + 1) (n := 1) (by unfold ixI; omega) (by omega) (by omega)
        cases yb : yr (y + 1) with
        | true =>
          left
          refine ⟨y + 1, 1, .inr rfl, by omega, by omega, fun X hX => c_add hX y m hy hm 1 (by unfold I64; omega) ?_ ?_ ?_, fun X a b hX ha hb => ?_⟩
          · unfold aV; rw [a1, if_pos ⟨hE, yb⟩]
          · unfold aV; rw [a1, a2, if_pos ⟨hE, yb⟩]
          · unfold aE; rw [a1, if_pos hE, if_pos yb]
          · rw [ha, hb]
            have mb : mo 1 = true := by decide
            refine c_start hX (y + 1) 1 (by unfold I64; omega) (by unfold I64; omega) ?_ (mE_in yb mb)
            rw [mV_in yb mb, show N + 1 = 12 by omega, mst_12]
            rfl
        | false =>
          right
          have := (yr_not _).1 yb
          refine ⟨by omega, by omega, fun X hX => c_add hX y m hy hm 1 (by unfold I64; omega) ?_ ?_ ?_⟩
          · unfold aV; rw [a1, if_neg (by rw [yb]; simp)]
          · unfold aV; rw [a1, if_neg (by rw [yb]; simp)]
          · unfold aE; rw [a1, if_pos hE, if_neg (by rw [yb]; decide)]
    clear hE ya ma hN hy hm
    generalize mlen y m = L at *
    generalize mst y N = S at *
    generalize mst y (N + 1) = T at *
    rcases HM with ⟨z, k, hz, k0, k1, KA, KT⟩ | ⟨hy2, hm2, KA⟩
    · clear hz
      go_enter Tryd.func3, Tryd.ntmps3
      go_wp2_with (first
        | (go_at_call 12; refine (KC.out _ (by assumption)).mono ?_; rintro e w' ⟨rfl, hk⟩)
        | (go_at_call 11; refine (RC.out _ (by assumption)).mono ?_; rintro e w' ⟨rfl, hk⟩)
        | (go_at_call 8; refine (KL.out _ (by assumption)).mono ?_; rintro e w' ⟨rfl, hk⟩)
        | (go_at_call 14; refine (RL.out _ (by assumption)).mono ?_; rintro e w' ⟨rfl, hk⟩)
        | (go_at_call 9; refine (KS.out _ _ _ (by assumption) (by exact rfl) (by exact rfl)).mono ?_; rintro e w' ⟨rfl, hk⟩)
        | (go_at_call 9; refine (KT.out _ _ _ (by assumption) (by exact rfl) (by exact rfl)).mono ?_; rintro e w' ⟨rfl, hk⟩)
        | (go_at_call 15; refine (RS.out _ (by assumption)).mono ?_; rintro e w' ⟨rfl, hk⟩)
        | (go_at_call 10; refine (KE.out _ (by assumption)).mono ?_; rintro e w' ⟨rfl, hk⟩)
        | (go_at_call 16; refine (RE.out _ (by assumption)).mono ?_; rintro e w' ⟨rfl, hk⟩)
        | (go_at_call 17; refine (KA.out _ (by assumption)).mono ?_; rintro e w' ⟨rfl, hk⟩)
        | (go_at_call 18; refine (num_t _ _ _ _ (by first | rfl | omega) (by rfl)).mono ?_; rintro e w' ⟨rfl, rfl⟩)
        | (go_at_call 13; refine (lives_t w _ (by assumption)).mono ?_; rintro e w' ⟨rfl, hk⟩))
      go_ret
      exact ⟨rfl, by assumption⟩
    · have g1 : (y == 10000000000000000) = true := by rw [beq_iff_eq]; exact hy2
      have g2 : (m == 12) = true := by rw [beq_iff_eq]; exact hm2
      clear hy2 hm2
      go_enter Tryd.func3, Tryd.ntmps3
      go_wp2_with (first
        | (go_at_call 12; refine (KC.out _ (by assumption)).mono ?_; rintro e w' ⟨rfl, hk⟩)
        | (go_at_call 11; refine (RC.out _ (by assumption)).mono ?_; rintro e w' ⟨rfl, hk⟩)
        | (go_at_call 8; refine (KL.out _ (by assumption)).mono ?_; rintro e w' ⟨rfl, hk⟩)
        | (go_at_call 14; refine (RL.out _ (by assumption)).mono ?_; rintro e w' ⟨rfl, hk⟩)
        | (go_at_call 9; refine (KS.out _ _ _ (by assumption) (by exact rfl) (by exact rfl)).mono ?_; rintro e w' ⟨rfl, hk⟩)
        | (go_at_call 15; refine (RS.out _ (by assumption)).mono ?_; rintro e w' ⟨rfl, hk⟩)
        | (go_at_call 10; refine (KE.out _ (by assumption)).mono ?_; rintro e w' ⟨rfl, hk⟩)
        | (go_at_call 16; refine (RE.out _ (by assumption)).mono ?_; rintro e w' ⟨rfl, hk⟩)
        | (go_at_call 17; refine (KA.out _ (by assumption)).mono ?_; rintro e w' ⟨rfl, hk⟩)
        | (go_at_call 13; refine (lives_t w _ (by assumption)).mono ?_; rintro e w' ⟨rfl, hk⟩))
      go_ret
      exact ⟨rfl, by assumption⟩
  · have KC : Hid (∀ X, Ok w X → Calls Tryd.prog 12 #[.int .i64 y, .int .i64 m] X fun x w' => x = .returned (.int .i64 (mE y m)) ∧ Ok w w') := fun X hX => c_check hX y m hy hm rfl
    have RC : Hid (∀ X, Ok w X → Calls Tryd.prog 11 #[.int .i64 y, .int .i64 m] X fun x w' => x = .returned (.int .i64 (mE y m)) ∧ Ok w w') := fun X hX => cr_chk hX y m rfl
    have KL : Hid (∀ X, Ok w X → Calls Tryd.prog 8 #[.int .i64 y, .int .i64 m] X fun x w' => x = .returned (.tuple #[.int .i64 0, .int .i64 (mE y m)]) ∧ Ok w w') := fun X hX => c_len hX y m hy hm (mV_out hE _) rfl
    have KS : Hid (∀ X, Ok w X → Calls Tryd.prog 9 #[.int .i64 y, .int .i64 m] X fun x w' => x = .returned (.tuple #[.int .i64 0, .int .i64 (mE y m)]) ∧ Ok w w') := fun X hX => c_start hX y m hy hm (mV_out hE _) rfl
    have KE : Hid (∀ X, Ok w X → Calls Tryd.prog 10 #[.int .i64 y, .int .i64 m] X fun x w' => x = .returned (.tuple #[.int .i64 0, .int .i64 (mE y m)]) ∧ Ok w w') := fun X hX => c_end hX y m hy hm (mV_out hE _) rfl
    have g1 : (mE y m != 0) = true := by rw [bne_iff_ne]; exact hE
    obtain ⟨e0, e1⟩ := mE_bd y m
    clear hE hy hm
    generalize mE y m = E at *
    go_enter Tryd.func3, Tryd.ntmps3
    go_wp2_with (first
      | (go_at_call 12; refine (KC.out _ (by assumption)).mono ?_; rintro e w' ⟨rfl, hk⟩)
      | (go_at_call 11; refine (RC.out _ (by assumption)).mono ?_; rintro e w' ⟨rfl, hk⟩)
      | (go_at_call 8; refine (KL.out _ (by assumption)).mono ?_; rintro e w' ⟨rfl, hk⟩)
      | (go_at_call 9; refine (KS.out _ (by assumption)).mono ?_; rintro e w' ⟨rfl, hk⟩)
      | (go_at_call 10; refine (KE.out _ (by assumption)).mono ?_; rintro e w' ⟨rfl, hk⟩)
      | (go_at_call 13; refine (lives_t w _ (by assumption)).mono ?_; rintro e w' ⟨rfl, hk⟩))
    go_ret
    exact ⟨rfl, by assumption⟩
end Go.Proofs.YtlcilodpelmccaaDoor.mon
