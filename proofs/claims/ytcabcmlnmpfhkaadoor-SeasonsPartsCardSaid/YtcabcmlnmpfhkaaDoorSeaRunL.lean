/- The law on whatever year and code. -/
import Derived.Test.YtcabcmlnmpfhkaaDoorSeaLv
namespace Go.Proofs.YtcabcmlnmpfhkaaDoor.sea
open Go.RowKit

theorem c_rmon {w X : World} (h : Ok w X) (c : Int) : Calls Tryd.prog 8 #[.int .i64 c] X fun x w' => x = .returned (.tuple #[.int .i64 (sF c : Nat), .int .i64 (sN c : Nat)]) ∧ Ok w w' :=
  (smonR_any c X).mono fun _ _ ⟨p, q⟩ => ⟨p, q ▸ h⟩
theorem c_rrun {w X : World} (h : Ok w X) (y c : Int) : Calls Tryd.prog 11 #[.int .i64 y, .int .i64 c] X fun x w' => x = .returned (.tuple #[D4 (rV y c (sLo y c)) (rV y c (sHi y c)), .int .i64 (sE y c)]) ∧ Ok w w' :=
  (srunR_any y c X).mono fun _ _ ⟨p, q⟩ => ⟨p, h.step q⟩
theorem rV_bad {y c : Int} (h : sE y c ≠ 0) (v : Int) : rV y c v = 0 := if_neg h
set_option maxRecDepth 100000 in
set_option maxHeartbeats 4000000 in
theorem run_law (y c : Int) (w W : World) (hy : I64 y) (hc : I64 c) (ho : Ok w W) :
    Calls Tryd.prog 3 #[.int .i64 y, .int .i64 c] W fun e w' => e = .returned (.bool true) ∧ Ok w w' := by
  have KM : Hid (∀ X, Ok W X → Calls Tryd.prog 7 #[.int .i64 c] X fun x w' => x = .returned (.tuple #[.int .i64 (sF c : Nat), .int .i64 (sN c : Nat), .int .i64 (kE c)]) ∧ Ok W w') := fun X hX => c_months hX c hc rfl rfl rfl
  have KC : Hid (∀ X, Ok W X → Calls Tryd.prog 9 #[.int .i64 c] X fun x w' => x = .returned (.int .i64 (kE c)) ∧ Ok W w') := fun X hX => c_check hX c hc rfl
  have KR : Hid (∀ X, Ok W X → Calls Tryd.prog 10 #[.int .i64 y, .int .i64 c] X fun x w' => x = .returned (.tuple #[D4 (rV y c (sLo y c)) (rV y c (sHi y c)), .int .i64 (sE y c)]) ∧ Ok W w') := fun X hX => c_run hX y c hy hc rfl rfl rfl
  have RM : Hid (∀ X, Ok W X → Calls Tryd.prog 8 #[.int .i64 c] X fun x w' => x = .returned (.tuple #[.int .i64 (sF c : Nat), .int .i64 (sN c : Nat)]) ∧ Ok W w') := fun X hX => c_rmon hX c
  have RR : Hid (∀ B X, Ok B X → Calls Tryd.prog 11 #[.int .i64 y, .int .i64 c] X fun x w' => x = .returned (.tuple #[D4 (rV y c (sLo y c)) (rV y c (sHi y c)), .int .i64 (sE y c)]) ∧ Ok B w') := fun B X hX => c_rrun hX y c
  have HV := Lib.hid (fun h v => rV_bad (y := y) (c := c) h v)
  have hr := Ok.refl ho.1
  have HO := Lib.hid ho
  have hcase : (kE c = 7 ∧ sN c = 0) ∨ (kE c = 0 ∧ 3 ≤ sN c) := by
    cases h : isC c
    · exact .inl ⟨by unfold kE; rw [h]; rfl, (sF_no h).2⟩
    · exact .inr ⟨by unfold kE; rw [h]; rfl, (sFN h).2.2.1⟩
  have HRun : Hid (∀ X, Ok W X → Calls Tryd.prog 12 #[D4 (rV y c (sLo y c)) (rV y c (sHi y c)), .int .i64 (sE y c), D4 (rV y c (sLo y c)) (rV y c (sHi y c)), .int .i64 (sE y c)] X fun x w' => x = .returned (.bool true) ∧ Ok W w') := fun X hX => by
    by_cases hE : sE y c = 0
    · rw [hE]; exact c_rok hX rfl rfl rfl rfl
    · exact c_rbad hX (HV.out hE _) (HV.out hE _) hE rfl
  have HLi : Hid (∀ X, Ok W X → Calls Tryd.prog 13 #[] X fun x w' => x = .returned (.bool true) ∧ Ok W w') := fun X hX => lives_t W X hX
  clear ho hy hc HV
  generalize rV y c (sLo y c) = LO at *
  generalize rV y c (sHi y c) = HI at *
  generalize sE y c = E at *
  generalize sF c = F at *
  have e1 : ((F : Int) != F) = false := by simp
  rcases hcase with ⟨h7, hN⟩ | ⟨h0, hN⟩
  · rw [h7] at KM KC
    rw [hN] at KM RM
    clear h7 hN
    go_enter Tryd.func3, Tryd.ntmps3
    go_upto_region 8 with (first
      | (go_at_call 7; ((with_reducible refine (KM.out _ hr).mono ?_); rintro e w1 ⟨rfl, hk1⟩))
      | (go_at_call 8; ((with_reducible refine (RM.out _ hk1).mono ?_); rintro e w2 ⟨rfl, hk2⟩))
      | (go_at_call 9; ((with_reducible refine (KC.out _ hk2).mono ?_); rintro e w3 ⟨rfl, hk3⟩)))
    go_upto_region 9 with (go_at_call 10; ((with_reducible refine (KR.out _ hk3).mono ?_); rintro e w4 ⟨rfl, hk4⟩))
    have hB := BkR.new w4 0 LO 0 HI
    have o4 := hk4.step ((Below.refl _ _).alloc (Nat.le_refl _) (.cells #[.int .i8 0, .int .i64 LO, .int .i8 0, .int .i64 HI] 32))
    have l4 : w4.heap.size < (w4.alloc (.cells #[.int .i8 0, .int .i64 LO, .int .i8 0, .int .i64 HI] 32)).heap.size := by simp
    generalize (w4.alloc (Obj.cells #[Value.int IntKind.i8 0, Value.int IntKind.i64 LO, Value.int IntKind.i8 0, Value.int IntKind.i64 HI] 32)) = W4 at *
    generalize w4.heap.size = g at *
    clear hk1 hk2 hk3 hk4 hr
    have hr4 := Ok.refl o4.1
    go_upto_region 10 with (go_at_call 11; ((with_reducible refine (RR.out W4 _ hr4).mono ?_); rintro e w5 ⟨rfl, hk5⟩))
    have hB5 := BkR.new w5 0 LO 0 HI
    have hB4 := (hB.below l4 hk5.2).below (Nat.lt_of_lt_of_le l4 hk5.2.size) ((Below.refl _ w5).alloc (Nat.le_refl _) (.cells #[.int .i8 0, .int .i64 LO, .int .i8 0, .int .i64 HI] 32))
    have o5 := o4.step (hk5.2.trans (((Below.refl _ w5).alloc (Nat.le_refl _) (.cells #[.int .i8 0, .int .i64 LO, .int .i8 0, .int .i64 HI] 32)).mono hk5.2.size))
    generalize (w5.alloc (Obj.cells #[Value.int IntKind.i8 0, Value.int IntKind.i64 LO, Value.int IntKind.i8 0, Value.int IntKind.i64 HI] 32)) = W5 at *
    generalize w5.heap.size = g5 at *
    obtain ⟨m0, m1, m2, m3⟩ := hB4.four
    obtain ⟨n0, n1, n2, n3⟩ := hB5.four
    clear hB hB4 hB5 hr4 hk5 RR KR KC
    go_wp2_with (first
      | (go_at_call 12; ((with_reducible refine (HRun.out _ o5).mono ?_); rintro e w6 ⟨rfl, hk6⟩))
      | (go_at_call 13; ((with_reducible refine (HLi.out _ hk6).mono ?_); rintro e w7 ⟨rfl, hk7⟩)))
    go_ret
    exact ⟨rfl, HO.out.step hk7.2⟩
  · rw [h0] at KM KC
    have hN0 : ((sN c : Int) == 0) = false := by rw [beq_eq_false_iff_ne]; omega
    generalize sN c = N at *
    have e2 : ((N : Int) != N) = false := by simp
    clear h0 hN
    go_enter Tryd.func3, Tryd.ntmps3
    go_upto_region 8 with (first
      | (go_at_call 7; ((with_reducible refine (KM.out _ hr).mono ?_); rintro e w1 ⟨rfl, hk1⟩))
      | (go_at_call 8; ((with_reducible refine (RM.out _ hk1).mono ?_); rintro e w2 ⟨rfl, hk2⟩))
      | (go_at_call 9; ((with_reducible refine (KC.out _ hk2).mono ?_); rintro e w3 ⟨rfl, hk3⟩)))
    go_upto_region 9 with (go_at_call 10; ((with_reducible refine (KR.out _ hk3).mono ?_); rintro e w4 ⟨rfl, hk4⟩))
    have hB := BkR.new w4 0 LO 0 HI
    have o4 := hk4.step ((Below.refl _ _).alloc (Nat.le_refl _) (.cells #[.int .i8 0, .int .i64 LO, .int .i8 0, .int .i64 HI] 32))
    have l4 : w4.heap.size < (w4.alloc (.cells #[.int .i8 0, .int .i64 LO, .int .i8 0, .int .i64 HI] 32)).heap.size := by simp
    generalize (w4.alloc (Obj.cells #[Value.int IntKind.i8 0, Value.int IntKind.i64 LO, Value.int IntKind.i8 0, Value.int IntKind.i64 HI] 32)) = W4 at *
    generalize w4.heap.size = g at *
    clear hk1 hk2 hk3 hk4 hr
    have hr4 := Ok.refl o4.1
    go_upto_region 10 with (go_at_call 11; ((with_reducible refine (RR.out W4 _ hr4).mono ?_); rintro e w5 ⟨rfl, hk5⟩))
    have hB5 := BkR.new w5 0 LO 0 HI
    have hB4 := (hB.below l4 hk5.2).below (Nat.lt_of_lt_of_le l4 hk5.2.size) ((Below.refl _ w5).alloc (Nat.le_refl _) (.cells #[.int .i8 0, .int .i64 LO, .int .i8 0, .int .i64 HI] 32))
    have o5 := o4.step (hk5.2.trans (((Below.refl _ w5).alloc (Nat.le_refl _) (.cells #[.int .i8 0, .int .i64 LO, .int .i8 0, .int .i64 HI] 32)).mono hk5.2.size))
    generalize (w5.alloc (Obj.cells #[Value.int IntKind.i8 0, Value.int IntKind.i64 LO, Value.int IntKind.i8 0, Value.int IntKind.i64 HI] 32)) = W5 at *
    generalize w5.heap.size = g5 at *
    obtain ⟨m0, m1, m2, m3⟩ := hB4.four
    obtain ⟨n0, n1, n2, n3⟩ := hB5.four
    clear hB hB4 hB5 hr4 hk5 RR KR KC
    go_wp2_with (first
      | (go_at_call 12; ((with_reducible refine (HRun.out _ o5).mono ?_); rintro e w6 ⟨rfl, hk6⟩))
      | (go_at_call 13; ((with_reducible refine (HLi.out _ hk6).mono ?_); rintro e w7 ⟨rfl, hk7⟩)))
    go_ret
    exact ⟨rfl, HO.out.step hk7.2⟩
end Go.Proofs.YtcabcmlnmpfhkaaDoor.sea
