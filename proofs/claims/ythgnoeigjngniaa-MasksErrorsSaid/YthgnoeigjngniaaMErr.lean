/- The law MasksErrors: it returns true for every two strings and any number. -/
import Derived.Test.YthgnoeigjngniaaMNum
namespace Go.Proofs.Ythgnoeigjngniaa
open Go.RowKit

theorem chkS_in (s : ByteArray) : 0 ≤ chkS s ∧ chkS s ≤ 5 := by unfold chkS; split; omega; split <;> omega

set_option maxRecDepth 100000 in
set_option maxHeartbeats 4000000 in
theorem errors_law (s t : ByteArray) (n : Int) (w W : World) (hs : s.size ≤ maxLen) (ht : t.size ≤ maxLen) (n0 : -9223372036854775808 ≤ n) (n1 : n ≤ 9223372036854775807) (h : Ok w W) :
    Calls Try.prog 6 #[.string s, .string t, .int .i64 n] W fun e w' => e = .returned (.bool true) ∧ Ok w w' := by
  have hms : s.size ≤ 9223372036854775807 := by unfold maxLen at hs; omega
  have hmt : t.size ≤ 9223372036854775807 := by unfold maxLen at ht; omega
  have RS : Hid (∀ X y, Ok w X → y = s → Calls Try.prog 32 #[.string y] X fun e w' => e = .returned (.int .i64 (chkS s)) ∧ Ok w w') := fun X y hX hy => by rw [hy]; exact c_same hX (chkR_any s X hms)
  have RT : Hid (∀ X y, Ok w X → y = t → Calls Try.prog 32 #[.string y] X fun e w' => e = .returned (.int .i64 (chkS t)) ∧ Ok w w') := fun X y hX hy => by rw [hy]; exact c_same hX (chkR_any t X hmt)
  have CS : Hid (∀ X y, Ok w X → y = s → Calls Try.prog 15 #[.string y] X fun e w' => e = .returned (.int .i64 (chkS s)) ∧ Ok w w') := fun X y hX hy => by rw [hy]; exact c_eq hX rfl (check_any s X hs)
  have CT : Hid (∀ X y, Ok w X → y = t → Calls Try.prog 15 #[.string y] X fun e w' => e = .returned (.int .i64 (chkS t)) ∧ Ok w w') := fun X y hX hy => by rw [hy]; exact c_eq hX rfl (check_any t X ht)
  have CC : Hid (∀ X, Ok w X → Calls Try.prog 28 #[.string s, .string t] X fun e w' => e = .returned (.tuple #[.string (comV s t), .int .i64 (comE s t)]) ∧ Ok w w') := fun X hX => c_eq hX rfl (common_any s X t hs ht)
  by_cases hsz : s.size ≤ 40 ∧ t.size ≤ 40
  · obtain ⟨z1, z2⟩ := hsz
    have b1 := chkS_in s
    have b2 := chkS_in t
    by_cases hcs : chkS s = 0
    · have hq : Hid (chkS t ≠ 0 → comV s t = ⟨#[]⟩ ∧ comE s t = chkS t) := fun hh => by
        unfold comV comE
        rw [if_neg (by rintro ⟨_, h, _⟩; exact hh h), if_neg (by rw [hcs]; exact fun h => h rfl), if_pos hh]; exact ⟨rfl, rfl⟩
      rw [hcs] at RS CS
      by_cases hct : chkS t = 0
      · rw [hct] at RT CT
        generalize comV s t = cv at *
        generalize comE s t = ce at *
        clear hcs hct b1 b2 hq
        go_enter Try.func6, Try.ntmps6
        go_wp2_with (first
          | (go_at_call 32; refine (RS.out _ _ (by assumption) (by exact rfl)).mono ?_; rintro e w' ⟨rfl, hk⟩)
          | (go_at_call 32; refine (RT.out _ _ (by assumption) (by exact rfl)).mono ?_; rintro e w' ⟨rfl, hk⟩)
          | (go_at_call 15; refine (CS.out _ _ (by assumption) (by exact rfl)).mono ?_; rintro e w' ⟨rfl, hk⟩)
          | (go_at_call 15; refine (CT.out _ _ (by assumption) (by exact rfl)).mono ?_; rintro e w' ⟨rfl, hk⟩)
          | (go_at_call 28; refine (CC.out _ (by assumption)).mono ?_; rintro e w' ⟨rfl, hk⟩)
          | (go_at_call 23; refine (lives_t w _ (by assumption)).mono ?_; rintro e w' ⟨rfl, hk⟩))
        go_ret
        exact ⟨rfl, by assumption⟩
      · obtain ⟨e1, e2⟩ := hq.out hct
        rw [e1, e2] at CC
        have hct0 : (chkS t == 0) = false := by rw [beq_eq_false_iff_ne]; exact hct
        have hct1 : (chkS t != 0) = true := by rw [bne_iff_ne]; exact hct
        clear hcs e1 e2 hq
        generalize chkS t = ct at *
        go_enter Try.func6, Try.ntmps6
        go_wp2_with (first
          | (go_at_call 32; refine (RS.out _ _ (by assumption) (by exact rfl)).mono ?_; rintro e w' ⟨rfl, hk⟩)
          | (go_at_call 32; refine (RT.out _ _ (by assumption) (by exact rfl)).mono ?_; rintro e w' ⟨rfl, hk⟩)
          | (go_at_call 15; refine (CS.out _ _ (by assumption) (by exact rfl)).mono ?_; rintro e w' ⟨rfl, hk⟩)
          | (go_at_call 15; refine (CT.out _ _ (by assumption) (by exact rfl)).mono ?_; rintro e w' ⟨rfl, hk⟩)
          | (go_at_call 28; refine (CC.out _ (by assumption)).mono ?_; rintro e w' ⟨rfl, hk⟩)
          | (go_at_call 23; refine (lives_t w _ (by assumption)).mono ?_; rintro e w' ⟨rfl, hk⟩))
        go_ret
        exact ⟨rfl, by assumption⟩
    · have e1 : comV s t = ⟨#[]⟩ ∧ comE s t = chkS s := by
        unfold comV comE
        rw [if_neg (by rintro ⟨h, _⟩; exact hcs h), if_pos hcs]; exact ⟨rfl, rfl⟩
      rw [e1.1, e1.2] at CC
      have K1 : Hid (∀ X, Ok w X → Calls Try.prog 9 #[.string s] X fun e w' => e = .returned (.tuple #[.int .i64 0, .int .i64 (chkS s)]) ∧ Ok w w') := fun X hX => c_eq hX (mk2_bad hcs _ _) (count_any s X hs)
      have K2 : Hid (∀ X, Ok w X → Calls Try.prog 10 #[.string s] X fun e w' => e = .returned (.tuple #[.int .i64 0, .int .i64 (chkS s)]) ∧ Ok w w') := fun X hX => c_eq hX (mk2_bad hcs _ _) (least_any s X hs)
      have K3 : Hid (∀ X, Ok w X → Calls Try.prog 11 #[.string s] X fun e w' => e = .returned (.tuple #[.int .i64 0, .int .i64 (chkS s)]) ∧ Ok w w') := fun X hX => c_eq hX (mk2_bad hcs _ _) (great_any s X hs)
      have K4 : Hid (∀ X, Ok w X → Calls Try.prog 24 #[.string s, .int .i64 n] X fun e w' => e = .returned (.tuple #[.int .i64 0, .int .i64 (chkS s)]) ∧ Ok w w') := fun X hX => c_eq hX (mk2_bad hcs _ _) (next_any s n X hs n0 n1)
      have K5 : Hid (∀ X, Ok w X → Calls Try.prog 25 #[.string s, .int .i64 n] X fun e w' => e = .returned (.tuple #[.int .i64 0, .int .i64 (chkS s)]) ∧ Ok w w') := fun X hX => c_eq hX (mk2_bad hcs _ _) (prev_any s n X hs n0 n1)
      have K6 : Hid (∀ X, Ok w X → Calls Try.prog 16 #[.string s, .int .i64 n] X fun e w' => e = .returned (.tuple #[.int .i64 0, .int .i64 (chkS s)]) ∧ Ok w w') := fun X hX => c_eq hX (mk2_bad hcs _ _) (nth_any s n X hs n0 n1)
      have K7 : Hid (∀ X, Ok w X → Calls Try.prog 18 #[.string s, .int .i64 n] X fun e w' => e = .returned (.tuple #[.int .i64 0, .int .i64 (chkS s)]) ∧ Ok w w') := fun X hX => c_eq hX (mk2_bad hcs _ _) (index_any s n X hs n0 n1)
      have K8 : Hid (∀ X, Ok w X → Calls Try.prog 19 #[.string s, .int .i64 n] X fun e w' => e = .returned (.bool false) ∧ Ok w w') := fun X hX => c_eq hX (by rw [decide_eq_false hcs]; rfl) (has_any s n X hs n0 n1)
      have hcs0 : (chkS s == 0) = false := by rw [beq_eq_false_iff_ne]; exact hcs
      have hcs1 : (chkS s != 0) = true := by rw [bne_iff_ne]; exact hcs
      clear e1
      generalize chkS s = cs at *
      generalize chkS t = ct at *
      go_enter Try.func6, Try.ntmps6
      go_wp2_with (first
        | (go_at_call 32; refine (RS.out _ _ (by assumption) (by exact rfl)).mono ?_; rintro e w' ⟨rfl, hk⟩)
        | (go_at_call 32; refine (RT.out _ _ (by assumption) (by exact rfl)).mono ?_; rintro e w' ⟨rfl, hk⟩)
        | (go_at_call 15; refine (CS.out _ _ (by assumption) (by exact rfl)).mono ?_; rintro e w' ⟨rfl, hk⟩)
        | (go_at_call 15; refine (CT.out _ _ (by assumption) (by exact rfl)).mono ?_; rintro e w' ⟨rfl, hk⟩)
        | (go_at_call 28; refine (CC.out _ (by assumption)).mono ?_; rintro e w' ⟨rfl, hk⟩)
        | (go_at_call 9; refine (K1.out _ (by assumption)).mono ?_; rintro e w' ⟨rfl, hk⟩)
        | (go_at_call 10; refine (K2.out _ (by assumption)).mono ?_; rintro e w' ⟨rfl, hk⟩)
        | (go_at_call 11; refine (K3.out _ (by assumption)).mono ?_; rintro e w' ⟨rfl, hk⟩)
        | (go_at_call 24; refine (K4.out _ (by assumption)).mono ?_; rintro e w' ⟨rfl, hk⟩)
        | (go_at_call 25; refine (K5.out _ (by assumption)).mono ?_; rintro e w' ⟨rfl, hk⟩)
        | (go_at_call 16; refine (K6.out _ (by assumption)).mono ?_; rintro e w' ⟨rfl, hk⟩)
        | (go_at_call 18; refine (K7.out _ (by assumption)).mono ?_; rintro e w' ⟨rfl, hk⟩)
        | (go_at_call 19; refine (K8.out _ (by assumption)).mono ?_; rintro e w' ⟨rfl, hk⟩)
        | (go_at_call 17; refine (bad_t _ _ _ _ (by rfl) (by rfl)).mono ?_; rintro e w' ⟨rfl, rfl⟩)
        | (go_at_call 23; refine (lives_t w _ (by assumption)).mono ?_; rintro e w' ⟨rfl, hk⟩))
      go_ret
      exact ⟨rfl, by assumption⟩
  · by_cases hz : s.size ≤ 40
    all_goals
      try have hz2 : ¬ t.size ≤ 40 := fun h => hsz ⟨hz, h⟩
      clear hsz
      go_enter Try.func6, Try.ntmps6
      go_wp2_with (go_at_call 23; refine (lives_t w _ (by assumption)).mono ?_; rintro e w' ⟨rfl, hk⟩)
      go_ret
      exact ⟨rfl, by assumption⟩
end Go.Proofs.Ythgnoeigjngniaa
