/- The law on whatever day and code: the walk. -/
import Derived.Test.YtcabcmlnmpfhkaaDoorSeaOfL
namespace Go.Proofs.YtcabcmlnmpfhkaaDoor.sea
open Go.RowKit

theorem c_rof {w X : World} (h : Ok w X) (d c : Int) (hd : I64 d) : Calls Tryd.prog 17 #[.int .i64 d, .int .i64 c] X fun x w' => x = .returned (.tuple #[.int .i64 (ofY d c), .bool (ofB d c)]) ∧ Ok w w' :=
  (sofR_any d c X hd.1 hd.2).mono fun _ _ ⟨p, q⟩ => ⟨p, h.step q⟩
set_option maxRecDepth 100000 in
set_option maxHeartbeats 4000000 in
theorem of_code (d c : Int) (w W : World) (hd : I64 d) (hc : I64 c) (ho : Ok w W) (hC : isC c = false) :
    Calls Tryd.prog 4 #[.int .i64 d, .int .i64 c] W fun e w' => e = .returned (.bool true) ∧ Ok w w' := by
  have hE : oE d c = 7 := by unfold oE; rw [hC]; rfl
  have KO : Hid (∀ X, Ok W X → Calls Tryd.prog 14 #[.int .i64 d, .int .i64 c] X fun x w' => x = .returned (.tuple #[.int .i64 0, .bool false, .int .i64 7]) ∧ Ok W w') := fun X hX => c_of hX d c hd hc (if_neg (by rw [hE]; decide)) (if_neg (by rw [hE]; decide)) hE
  have KC : Hid (∀ X, Ok W X → Calls Tryd.prog 15 #[.int .i64 d] X fun x w' => ∃ v, x = .returned (.tuple #[v, .int .i64 (dE d)]) ∧ Ok W w' ∧ (∃ a n, v = .slice a (codesL d).length n) ∧ (yr (yrOf d) = true → IsL w' v (codesL d))) := fun X hX => c_codes hX d hd rfl
  have KF : Hid (∀ X, Calls Tryd.prog 16 #[.int .i64 d] X fun x w' => x = .returned (.tuple #[.int .i64 (yrOf d), .bool (yr (yrOf d))]) ∧ X = w') := fun X => ofR_any d X hd.1 hd.2
  have KM : Hid (∀ X, Calls Tryd.prog 8 #[.int .i64 c] X fun x w' => x = .returned (.tuple #[.int .i64 (sF c : Nat), .int .i64 (sN c : Nat)]) ∧ X = w') := smonR_any c
  rw [(sF_no hC).1, (sF_no hC).2] at KM
  have HLi : Hid (∀ X, Ok W X → Calls Tryd.prog 13 #[] X fun x w' => x = .returned (.bool true) ∧ Ok W w') := fun X hX => lives_t W X hX
  have HO := Lib.hid ho
  have hr := Ok.refl ho.1
  clear ho hd hc hC hE
  generalize yr (yrOf d) = b at *
  generalize yrOf d = yy at *
  generalize dE d = de at *
  go_enter Tryd.func4, Tryd.ntmps4
  go_upto_region 2 with (go_at_call 14; ((with_reducible refine (KO.out _ hr).mono ?_); rintro e w1 ⟨rfl, hk1⟩))
  go_upto_region 3 with (go_at_call 15; ((with_reducible refine (KC.out _ hk1).mono ?_); rintro e w2 ⟨v, rfl, hk2, -, -⟩))
  clear KO KC hk1 hr
  go_wp2_with (first
    | (go_at_call 16; ((with_reducible refine (KF.out _).mono ?_); rintro e w3 ⟨rfl, rfl⟩))
    | (go_at_call 8; ((with_reducible refine (KM.out _).mono ?_); rintro e w4 ⟨rfl, rfl⟩))
    | (go_at_call 13; ((with_reducible refine (HLi.out _ hk2).mono ?_); rintro e w5 ⟨rfl, hk5⟩)))
  go_ret
  exact ⟨rfl, HO.out.step hk5.2⟩
set_option maxRecDepth 100000 in
set_option maxHeartbeats 4000000 in
theorem of_out (d c : Int) (w W : World) (hd : I64 d) (hc : I64 c) (ho : Ok w W) (hC : isC c = true) (hy : yr (yrOf d) = false) :
    Calls Tryd.prog 4 #[.int .i64 d, .int .i64 c] W fun e w' => e = .returned (.bool true) ∧ Ok w w' := by
  have hE : oE d c = 6 := by unfold oE; rw [hC, hy]; rfl
  have hD : dE d = 6 := by unfold dE; rw [hy]; rfl
  have hL : codesL d = [] := if_neg (by rw [hy]; decide)
  have KO : Hid (∀ X, Ok W X → Calls Tryd.prog 14 #[.int .i64 d, .int .i64 c] X fun x w' => x = .returned (.tuple #[.int .i64 0, .bool false, .int .i64 6]) ∧ Ok W w') := fun X hX => c_of hX d c hd hc (if_neg (by rw [hE]; decide)) (if_neg (by rw [hE]; decide)) hE
  have KC : Hid (∀ X, Ok W X → Calls Tryd.prog 15 #[.int .i64 d] X fun x w' => ∃ v, x = .returned (.tuple #[v, .int .i64 6]) ∧ Ok W w' ∧ (∃ a n, v = .slice a (codesL d).length n) ∧ (yr (yrOf d) = true → IsL w' v (codesL d))) := fun X hX => c_codes hX d hd hD
  have KF : Hid (∀ X, Calls Tryd.prog 16 #[.int .i64 d] X fun x w' => x = .returned (.tuple #[.int .i64 (yrOf d), .bool false]) ∧ X = w') := fun X => by rw [← hy]; exact ofR_any d X hd.1 hd.2
  have KM : Hid (∀ X, Calls Tryd.prog 8 #[.int .i64 c] X fun x w' => x = .returned (.tuple #[.int .i64 (sF c : Nat), .int .i64 (sN c : Nat)]) ∧ X = w') := smonR_any c
  have hN : ((sN c : Int) == 0) = false := by have := (sFN hC).2.2.1; rw [beq_eq_false_iff_ne]; omega
  have HLi : Hid (∀ X, Ok W X → Calls Tryd.prog 13 #[] X fun x w' => x = .returned (.bool true) ∧ Ok W w') := fun X hX => lives_t W X hX
  have HO := Lib.hid ho
  have hr := Ok.refl ho.1
  rw [hL] at KC
  clear ho hd hc hC hE hD hL hy
  generalize yrOf d = yy at *
  generalize sF c = F at *
  generalize sN c = N at *
  go_enter Tryd.func4, Tryd.ntmps4
  go_upto_region 2 with (go_at_call 14; ((with_reducible refine (KO.out _ hr).mono ?_); rintro e w1 ⟨rfl, hk1⟩))
  go_upto_region 3 with (go_at_call 15; ((with_reducible refine (KC.out _ hk1).mono ?_); rintro e w2 ⟨v, rfl, hk2, ⟨a, n, rfl⟩, -⟩))
  clear KO KC hk1 hr
  go_wp2_with (first
    | (go_at_call 16; ((with_reducible refine (KF.out _).mono ?_); rintro e w3 ⟨rfl, rfl⟩))
    | (go_at_call 8; ((with_reducible refine (KM.out _).mono ?_); rintro e w4 ⟨rfl, rfl⟩))
    | (go_at_call 13; ((with_reducible refine (HLi.out _ hk2).mono ?_); rintro e w5 ⟨rfl, hk5⟩)))
  go_ret
  exact ⟨rfl, HO.out.step hk5.2⟩
end Go.Proofs.YtcabcmlnmpfhkaaDoor.sea
