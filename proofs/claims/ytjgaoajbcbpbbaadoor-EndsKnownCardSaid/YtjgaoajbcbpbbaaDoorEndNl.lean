/- The law on the next end, whatever the ends. -/
import Derived.Test.YtjgaoajbcbpbbaaDoorEndNy
import Derived.Test.YtjgaoajbcbpbbaaDoorEndNz
namespace Go.Proofs.YtjgaoajbcbpbbaaDoor.end8
open Go.RowKit

theorem nx_zero {i d : Int} (h : ¬ nxE i d = 0) : nxI i d = 0 ∧ nxD i d = 0 := ⟨if_neg h, if_neg h⟩
theorem pv_zero {i d : Int} (h : ¬ pvE i d = 0) : pvI i d = 0 ∧ pvD i d = 0 := ⟨if_neg h, if_neg h⟩
theorem c_gsame {a b er : Int} (h : ¬ er = 0 → a = 0 ∧ b = 0) {B X : World} (hX : Ok B X) : Calls Tryd.prog 19 #[E2 a b, .int .i64 er, E2 a b, .int .i64 er] X fun x w' => x = .returned (.bool true) ∧ Ok B w' := by
  by_cases h0 : er = 0
  · exact c_gok hX rfl rfl h0 h0
  · exact c_gbad hX (h h0).1 (h h0).2 h0 rfl
theorem pv_back {d : Int} (h : -9223372036854775808 ≤ d) : pvI 0 (d + 1) = 0 ∧ pvD 0 (d + 1) = d ∧ pvE 0 (d + 1) = 0 := by
  rcases pvE_cases 0 (d + 1) with ⟨_, _, q, _⟩ | ⟨_, _, _, q⟩ | ⟨_, q, _⟩ | ⟨_, q, _⟩ | ⟨q, _⟩
  · omega
  · exact ⟨q.1, by rw [q.2.1]; omega, q.2.2⟩
  · cases q
  · cases q
  · cases q
theorem enC_gap {d j e : Int} (h : enC 0 d j e = -1) : enC j e 0 (d + 1) = 0 ∨ enC j e 0 (d + 1) = 1 := by
  rcases enC_cases 0 d j e with ⟨_, q⟩ | ⟨_, _, q⟩ | ⟨_, _, _, q⟩ | ⟨_, _, _, _, q⟩ | ⟨_, _, _, _, q⟩ <;> rcases enC_cases j e 0 (d + 1) with ⟨_, p⟩ | ⟨_, _, p⟩ | ⟨_, _, _, p⟩ | ⟨_, _, _, _, p⟩ | ⟨_, _, _, _, p⟩ <;> omega
theorem enC_three (i d j e : Int) : enC i d j e = 0 ∨ enC i d j e = 1 ∨ enC i d j e = -1 := by
  rcases enC_cases i d j e with ⟨_, q⟩ | ⟨_, _, q⟩ | ⟨_, _, _, q⟩ | ⟨_, _, _, _, q⟩ | ⟨_, _, _, _, q⟩ <;> omega
theorem next_law (i d j e : Int) (w W : World) (hi : I8 i) (hd : I64 d) (hj : I8 j) (he : I64 e) (ho : Ok w W) :
    Calls Tryd.prog 4 #[E2 i d, E2 j e] W fun x w' => x = .returned (.bool true) ∧ Ok w w' := by
  have KL : Hid (∀ B X, Ok B X → Calls Tryd.prog 12 #[] X fun x w' => x = .returned (.bool true) ∧ Ok B w') := fun B X hX => lives_t B X hX
  have KN : Hid (∀ B X, Ok B X → Calls Tryd.prog 13 #[E2 i d] X fun x w' => x = .returned (.tuple #[E2 (nxI i d) (nxD i d), .int .i64 (nxE i d)]) ∧ Ok B w') := fun B X hX => c_next hX i d hi hd rfl rfl rfl
  have KP : Hid (∀ B X, Ok B X → Calls Tryd.prog 14 #[E2 i d] X fun x w' => x = .returned (.tuple #[E2 (pvI i d) (pvD i d), .int .i64 (pvE i d)]) ∧ Ok B w') := fun B X hX => c_prev hX i d hi hd rfl rfl rfl
  have KRN : Hid (∀ B X, Ok B X → Calls Tryd.prog 15 #[E2 i d] X fun x w' => x = .returned (.tuple #[E2 (nxI i d) (nxD i d), .int .i64 (nxE i d)]) ∧ Ok B w') := fun B X hX => c_eq hX rfl (nxtE_any i d X hd)
  have KRP : Hid (∀ B X, Ok B X → Calls Tryd.prog 16 #[E2 i d] X fun x w' => x = .returned (.tuple #[E2 (pvI i d) (pvD i d), .int .i64 (pvE i d)]) ∧ Ok B w') := fun B X hX => c_eq hX rfl (prvE_any i d X hd)
  have KC : Hid (∀ B X, Ok B X → Calls Tryd.prog 17 #[E2 i d] X fun x w' => x = .returned (.int .i64 (enE i d)) ∧ Ok B w') := fun B X hX => c_check hX i d hi hd rfl
  have KRC : Hid (∀ B X, Ok B X → Calls Tryd.prog 18 #[E2 i d] X fun x w' => x = .returned (.int .i64 (enE i d)) ∧ Ok B w') := fun B X hX => c_eq hX rfl (chkE_any i d X)
  have KG1 : Hid (∀ B X, Ok B X → Calls Tryd.prog 19 #[E2 (nxI i d) (nxD i d), .int .i64 (nxE i d), E2 (nxI i d) (nxD i d), .int .i64 (nxE i d)] X fun x w' => x = .returned (.bool true) ∧ Ok B w') := fun B X hX => c_gsame nx_zero hX
  have KG2 : Hid (∀ B X, Ok B X → Calls Tryd.prog 19 #[E2 (pvI i d) (pvD i d), .int .i64 (pvE i d), E2 (pvI i d) (pvD i d), .int .i64 (pvE i d)] X fun x w' => x = .returned (.bool true) ∧ Ok B w') := fun B X hX => c_gsame pv_zero hX
  by_cases h0 : i = 0
  · subst h0
    by_cases hE : nxE 0 d = 0
    · have hN : nxI 0 d = 0 ∧ nxD 0 d = d + 1 := ⟨if_pos hE, by unfold nxD; rw [if_pos hE]; rfl⟩
      have hM : d < 9223372036854775807 := by
        rcases nxE_cases 0 d with ⟨_, _, _, q⟩ | ⟨_, _, q, _⟩ | ⟨_, q, _⟩ | ⟨_, q, _⟩ | ⟨q, _⟩
        · rw [hE] at q; omega
        · unfold I64 at hd; omega
        · cases q
        · cases q
        · cases q
      rw [hE, hN.1, hN.2] at KN KRN KG1
      obtain ⟨b1, b2, b3⟩ := pv_back hd.1
      have hd2 : I64 (d + 1) := by unfold I64 at hd ⊢; omega
      have KB : Hid (∀ B X, Ok B X → Calls Tryd.prog 14 #[E2 0 (d + 1)] X fun x w' => x = .returned (.tuple #[E2 0 d, .int .i64 0]) ∧ Ok B w') := fun B X hX => c_prev hX 0 (d + 1) hi hd2 b1 b2 b3
      have KG3 : Hid (∀ B X, Ok B X → Calls Tryd.prog 19 #[E2 0 d, .int .i64 0, E2 0 d, .int .i64 0] X fun x w' => x = .returned (.bool true) ∧ Ok B w') := fun B X hX => c_gok hX rfl rfl rfl rfl
      have KO : Hid (∀ B X, Ok B X → Calls Tryd.prog 20 #[.int .i64 d] X fun x w' => x = .returned (E2 0 d) ∧ Ok B w') := fun B X hX => c_of hX d hd
      have eA : ∀ w, (binOp .eql 24 (E2 0 d) (E2 0 d)).run Tryd.prog w = .ok (.bool true) w := fun w => by have := eq_any 0 d 0 d w; rw [eqE_same] at this; exact this
      rcases enC_three 0 d j e with h | h | h
      · exact next_0 d j e _ _ _ _ w W KL KN KP KRN KRP KC KRC KG1 KG2 KB KG3 (fun B X hX => c_cmp hX 0 d j e hi hd hj he h) KO eA ho
      · exact next_1 d j e _ _ _ _ w W KL KN KP KRN KRP KC KRC KG1 KG2 KB KG3 (fun B X hX => c_cmp hX 0 d j e hi hd hj he h) KO eA ho
      · rcases enC_gap h with g | g
        · exact next_m0 d j e _ _ _ _ w W KL KN KP KRN KRP KC KRC KG1 KG2 KB KG3 (fun B X hX => c_cmp hX 0 d j e hi hd hj he h) (fun B X hX => c_cmp hX j e 0 (d + 1) hj he hi hd2 g) KO eA ho
        · exact next_m1 d j e _ _ _ _ w W KL KN KP KRN KRP KC KRC KG1 KG2 KB KG3 (fun B X hX => c_cmp hX 0 d j e hi hd hj he h) (fun B X hX => c_cmp hX j e 0 (d + 1) hj he hi hd2 g) KO eA ho
    · exact next_top d j e _ _ _ _ _ _ _ w W KL KN KP KRN KRP KC KRC KG1 KG2 hE ho
  · exact next_inf i d j e _ _ _ _ _ _ _ w W KL KN KP KRN KRP KC KRC KG1 KG2 h0 ho
end Go.Proofs.YtjgaoajbcbpbbaaDoor.end8
