/- The laws on texts: EndsText, EndsParse. -/
import Derived.Test.YtjgaoajbcbpbbaaDoorEndLv
namespace Go.Proofs.YtjgaoajbcbpbbaaDoor.end8
open Go.RowKit

theorem size_itoa (d : Int) (h : I64 d) : (enS 0 d).size ≤ 100 := by
  rw [enS_zero, Lib.size_eq]
  have := itoa_len d h.1 h.2
  simp
  omega
/-- The text of a right end is read as that end again. -/
theorem back_day (d : Int) (h : I64 d) : prI (enS 0 d) = 0 ∧ prD (enS 0 d) = d ∧ prE (enS 0 d) = 0 := by
  obtain ⟨h1, h2⟩ := itoa_facts d
  have hl : (enS 0 d).data.toList = Lib.itoa d := by rw [enS_zero]
  have n1 : ¬ enS 0 d = infS := fun e => by
    have : isTextB (enS 0 d).data.toList = isTextB _ := congrArg (fun s => isTextB s.data.toList) e
    rw [hl, h1] at this
    revert this; decide
  have n2 : ¬ enS 0 d = minS := fun e => by
    have : isTextB (enS 0 d).data.toList = isTextB _ := congrArg (fun s => isTextB s.data.toList) e
    rw [hl, h1] at this
    revert this; decide
  have hE : prE (enS 0 d) = 0 := by
    unfold prE
    rw [if_neg (by simp [n1, n2]), hl, h1, if_pos rfl, h2]
    exact if_pos h
  exact ⟨by unfold prI; rw [if_neg n1, if_neg n2], by unfold prD; rw [if_neg (by simp [n1, n2]), if_pos hE, hl, h2], hE⟩
theorem back_any {i d : Int} (hd : I64 d) (h : enE i d = 0) : (enS i d).size ≤ 100 ∧ (prI (enS i d) = i ∧ prD (enS i d) = d ∧ prE (enS i d) = 0) := by
  rcases enE_cases i d with ⟨_, rfl⟩ | ⟨_, rfl, rfl⟩ | ⟨_, rfl, rfl⟩ | ⟨e, _⟩
  · exact ⟨size_itoa d hd, back_day d hd⟩
  · exact ⟨by decide, by decide⟩
  · exact ⟨by decide, by decide⟩
  · rw [h] at e; cases e
set_option maxRecDepth 100000 in
set_option maxHeartbeats 4000000 in
theorem text_law (i d : Int) (w W : World) (hi : I8 i) (hd : I64 d) (ho : Ok w W) :
    Calls Tryd.prog 5 #[E2 i d] W fun e w' => e = .returned (.bool true) ∧ Ok w w' := by
  have KT : Hid (∀ B X, Ok B X → Calls Tryd.prog 21 #[E2 i d] X fun x w' => x = .returned (.tuple #[.string (enT i d), .int .i64 (enE i d)]) ∧ Ok B w') := fun B X hX => c_text hX i d hi hd rfl rfl
  have KC : Hid (∀ B X, Ok B X → Calls Tryd.prog 18 #[E2 i d] X fun x w' => x = .returned (.int .i64 (enE i d)) ∧ Ok B w') := fun B X hX => c_eq hX rfl (chkE_any i d X)
  have KL : Hid (∀ B X, Ok B X → Calls Tryd.prog 12 #[] X fun x w' => x = .returned (.bool true) ∧ Ok B w') := fun B X hX => lives_t B X hX
  by_cases hE : enE i d = 0
  · obtain ⟨hs, b1, b2, b3⟩ := back_any hd hE
    have hT : enT i d = enS i d := if_pos hE
    rw [hE, hT] at KT
    rw [hE] at KC
    have KP : Hid (∀ B X, Ok B X → Calls Tryd.prog 22 #[.string (enS i d)] X fun x w' => x = .returned (.tuple #[E2 i d, .int .i64 0]) ∧ Ok B w') := fun B X hX => c_parse hX _ (Nat.le_trans hs (by decide)) b1 b2 b3
    have KX : Hid (∀ B X, Ok B X → Calls Tryd.prog 23 #[E2 i d] X fun x w' => x = .returned (.string (enS i d)) ∧ Ok B w') := fun B X hX => c_eq hX rfl (texE_any i d X hd)
    have KG : Hid (∀ B X, Ok B X → Calls Tryd.prog 19 #[E2 i d, .int .i64 0, E2 i d, .int .i64 0] X fun x w' => x = .returned (.bool true) ∧ Ok B w') := fun B X hX => c_gok hX rfl rfl rfl rfl
    clear hs b1 b2 b3 hT hE
    generalize enS i d = S at *
    have tS : (S.toList == S.toList) = true := by simp
    go_enter Tryd.func5, Tryd.ntmps5
    go_upto_region 1 with fail
    have hB := Bs.new (show Bs W [] from trivial) i d
    have o1 := ho.step (end_new W i d _ rfl).2.2
    generalize (W.alloc (Obj.cells #[Value.int IntKind.i8 i, Value.int IntKind.i64 d] 24)) = W1 at *
    generalize W.heap.size = g1 at *
    clear ho
    have hr := Ok.refl o1.1
    obtain ⟨⟨k1, -⟩, -⟩ := id hB
    obtain ⟨f0, f1⟩ := k1.duo
    clear k1
    go_upto_region 6 with (first
      | (go_at_call 21; ((with_reducible refine (KT.out _ _ hr).mono ?_); rintro e w2 ⟨rfl, hk2⟩; obtain ⟨⟨k1, -⟩, -⟩ := hB.below hk2.2; obtain ⟨m0, m1⟩ := k1.duo; clear k1))
      | (go_at_call 18; ((with_reducible refine (KC.out _ _ hk2).mono ?_); rintro e w3 ⟨rfl, hk3⟩))
      | (go_at_call 22; ((with_reducible refine (KP.out _ _ hk3).mono ?_); rintro e w4 ⟨rfl, hk4⟩)))
    have hBb := Bs.new (hB.below hk4.2) i d
    have ob := hk4.step (end_new w4 i d _ rfl).2.2
    generalize (w4.alloc (Obj.cells #[Value.int IntKind.i8 i, Value.int IntKind.i64 d] 24)) = W5 at *
    generalize w4.heap.size = g2 at *
    have o5 := o1.step ob.2
    clear hB hk2 hk3 hk4 f0 f1 m0 m1 o1 hr ob KT KC KP
    have hr := Ok.refl o5.1
    obtain ⟨⟨k2, -⟩, ⟨k1, -⟩, -⟩ := id hBb
    obtain ⟨f0, f1⟩ := k1.duo
    obtain ⟨f2, f3⟩ := k2.duo
    clear k1 k2
    go_wp2_with (first
      | (go_at_call 23; ((with_reducible refine (KX.out _ _ hr).mono ?_); rintro e w6 ⟨rfl, hk6⟩; obtain ⟨⟨k2, -⟩, ⟨k1, -⟩, -⟩ := hBb.below hk6.2; obtain ⟨m0, m1⟩ := k1.duo; obtain ⟨m2, m3⟩ := k2.duo; clear k1 k2))
      | (go_at_call 19; ((with_reducible refine (KG.out _ _ hk6).mono ?_); rintro e w7 ⟨rfl, hk7⟩))
      | (go_at_call 12; ((with_reducible refine (KL.out _ _ hk7).mono ?_); rintro e w8 ⟨rfl, hk8⟩)))
    go_ret
    exact ⟨rfl, o5.step hk8.2⟩
  · have hT : enT i d = ⟨#[]⟩ := if_neg hE
    have hE5 : enE i d = 5 := by rcases enE_cases i d with ⟨e, _⟩ | ⟨e, _⟩ | ⟨e, _⟩ | ⟨e, _⟩; exact absurd e hE; exact absurd e hE; exact absurd e hE; exact e
    rw [hT, hE5] at KT
    rw [hE5] at KC
    clear hT hE hE5
    go_enter Tryd.func5, Tryd.ntmps5
    go_upto_region 1 with fail
    have hB := Bs.new (show Bs W [] from trivial) i d
    have o1 := ho.step (end_new W i d _ rfl).2.2
    generalize (W.alloc (Obj.cells #[Value.int IntKind.i8 i, Value.int IntKind.i64 d] 24)) = W1 at *
    generalize W.heap.size = g1 at *
    clear ho
    have hr := Ok.refl o1.1
    obtain ⟨⟨k1, -⟩, -⟩ := id hB
    obtain ⟨f0, f1⟩ := k1.duo
    clear k1
    go_wp2_with (first
      | (go_at_call 21; ((with_reducible refine (KT.out _ _ hr).mono ?_); rintro e w2 ⟨rfl, hk2⟩; obtain ⟨⟨k1, -⟩, -⟩ := hB.below hk2.2; obtain ⟨m0, m1⟩ := k1.duo; clear k1))
      | (go_at_call 18; ((with_reducible refine (KC.out _ _ hk2).mono ?_); rintro e w3 ⟨rfl, hk3⟩))
      | (go_at_call 12; ((with_reducible refine (KL.out _ _ hk3).mono ?_); rintro e w8 ⟨rfl, hk8⟩)))
    go_ret
    exact ⟨rfl, o1.step hk8.2⟩
set_option maxRecDepth 100000 in
set_option maxHeartbeats 4000000 in
theorem parse_law (s : ByteArray) (w W : World) (_hs : s.size ≤ maxLen) (ho : Ok w W) :
    Calls Tryd.prog 6 #[.string s] W fun e w' => e = .returned (.bool true) ∧ Ok w w' := by
  have KL : Hid (∀ B X, Ok B X → Calls Tryd.prog 12 #[] X fun x w' => x = .returned (.bool true) ∧ Ok B w') := fun B X hX => lives_t B X hX
  have hr := Ok.refl ho.1
  by_cases h60 : (60 : Int) < s.size
  · go_enter Tryd.func6, Tryd.ntmps6
    go_wp2_with (go_at_call 12; ((with_reducible refine (KL.out _ _ hr).mono ?_); rintro e w8 ⟨rfl, hk8⟩))
    go_ret
    exact ⟨rfl, ho.step hk8.2⟩
  · have KP : Hid (∀ B X, Ok B X → Calls Tryd.prog 22 #[.string s] X fun x w' => x = .returned (.tuple #[E2 (prI s) (prD s), .int .i64 (prE s)]) ∧ Ok B w') := fun B X hX => c_parse hX s (by omega) rfl rfl rfl
    have KR : Hid (∀ B X, Ok B X → Calls Tryd.prog 24 #[.string s] X fun x w' => x = .returned (.tuple #[E2 (prI s) (prD s), .int .i64 (prE s)]) ∧ Ok B w') := fun B X hX => c_eq hX rfl (parE_any s X (by omega))
    have KG : Hid (∀ B X, Ok B X → Calls Tryd.prog 19 #[E2 (prI s) (prD s), .int .i64 (prE s), E2 (prI s) (prD s), .int .i64 (prE s)] X fun x w' => x = .returned (.bool true) ∧ Ok B w') := fun B X hX => by
      by_cases h0 : prE s = 0
      · exact c_gok hX rfl rfl h0 h0
      · have : prI s = 0 ∧ prD s = 0 := by
          rcases prE_cases s with ⟨_, q⟩ | ⟨_, _, q⟩ | ⟨_, _, _, q⟩ | ⟨_, _, _, _, q⟩ | ⟨_, _, _, _, q⟩
          · exact absurd q.2.2 h0
          · exact absurd q.2.2 h0
          · exact ⟨q.1, q.2.1⟩
          · exact ⟨q.1, q.2.1⟩
          · exact absurd q.2.2 h0
        exact c_gbad hX this.1 this.2 h0 rfl
    generalize prI s = i at *
    generalize prD s = d at *
    generalize prE s = er at *
    go_enter Tryd.func6, Tryd.ntmps6
    go_upto_region 4 with (go_at_call 22; ((with_reducible refine (KP.out _ _ hr).mono ?_); rintro e w1 ⟨rfl, hk1⟩))
    have hB := Bs.new (show Bs w1 [] from trivial) i d
    have ob := hk1.step (end_new w1 i d _ rfl).2.2
    generalize (w1.alloc (Obj.cells #[Value.int IntKind.i8 i, Value.int IntKind.i64 d] 24)) = W2 at *
    generalize w1.heap.size = g1 at *
    have o2 := ho.step ob.2
    clear hr hk1 ob ho KP
    have hr := Ok.refl o2.1
    go_upto_region 5 with (go_at_call 24; ((with_reducible refine (KR.out _ _ hr).mono ?_); rintro e w3 ⟨rfl, hk3⟩))
    have hBb := Bs.new (hB.below hk3.2) i d
    have ob := hk3.step (end_new w3 i d _ rfl).2.2
    generalize (w3.alloc (Obj.cells #[Value.int IntKind.i8 i, Value.int IntKind.i64 d] 24)) = W4 at *
    generalize w3.heap.size = g2 at *
    have o4 := o2.step ob.2
    clear hr hk3 ob o2 hB KR
    have hr := Ok.refl o4.1
    obtain ⟨⟨k2, -⟩, ⟨k1, -⟩, -⟩ := id hBb
    obtain ⟨f0, f1⟩ := k1.duo
    obtain ⟨f2, f3⟩ := k2.duo
    clear k1 k2
    go_wp2_with (first
      | (go_at_call 19; ((with_reducible refine (KG.out _ _ hr).mono ?_); rintro e w7 ⟨rfl, hk7⟩))
      | (go_at_call 12; ((with_reducible refine (KL.out _ _ hk7).mono ?_); rintro e w8 ⟨rfl, hk8⟩)))
    go_ret
    exact ⟨rfl, o4.step hk8.2⟩
end Go.Proofs.YtjgaoajbcbpbbaaDoor.end8
