/- The reference of ends (circaref08): Check, Compare, Next, Prev. -/
import Derived.Test.YtjgaoajbcbpbbaaDoorEnd
import Derived.Test.YtjgaoajbcbpbbaaDoorEndB
import Derived.Deep.RegionHeld3
import Derived.Deep.QuietTactic
import Derived.BigQuiet
namespace Go.Proofs.YtjgaoajbcbpbbaaDoor
open Go.RowKit

theorem chkE_any (i d : Int) (w : World) :
    Calls Tryd.prog 18 #[E2 i d] w fun e w' => e = .returned (.int .i64 (enE i d)) ∧ Below w.heap.size w w' := by
  rcases enE_cases i d with ⟨e, rfl⟩ | ⟨e, rfl, rfl⟩ | ⟨e, rfl, rfl⟩ | ⟨e, h0, ⟨rfl, h⟩ | ⟨rfl, h⟩ | ⟨h1, h2⟩⟩
  · rw [e]; clear e
    go_enter Tryd.func18, Tryd.ntmps18
    go_upto_region 1 with fail
    obtain ⟨hK, hlt, hb⟩ := end_new w 0 d _ rfl
    generalize (w.alloc (Obj.cells #[Value.int IntKind.i8 0, Value.int IntKind.i64 d] 24)) = W1 at *
    obtain ⟨f0, f1⟩ := hK.duo
    clear hK
    go_wp2
    go_ret
    exact ⟨rfl, hb⟩
  · rw [e]; clear e
    go_enter Tryd.func18, Tryd.ntmps18
    go_upto_region 1 with fail
    obtain ⟨hK, hlt, hb⟩ := end_new w 1 0 _ rfl
    generalize (w.alloc (Obj.cells #[Value.int IntKind.i8 1, Value.int IntKind.i64 0] 24)) = W1 at *
    obtain ⟨f0, f1⟩ := hK.duo
    clear hK
    go_wp2
    go_ret
    exact ⟨rfl, hb⟩
  · rw [e]; clear e
    go_enter Tryd.func18, Tryd.ntmps18
    go_upto_region 1 with fail
    obtain ⟨hK, hlt, hb⟩ := end_new w (-1) 0 _ rfl
    generalize (w.alloc (Obj.cells #[Value.int IntKind.i8 (-1), Value.int IntKind.i64 0] 24)) = W1 at *
    obtain ⟨f0, f1⟩ := hK.duo
    clear hK
    go_wp2
    go_ret
    exact ⟨rfl, hb⟩
  · rw [e]; clear e
    have hd : (d == 0) = false := beq_eq_false_iff_ne.2 h
    clear h h0
    go_enter Tryd.func18, Tryd.ntmps18
    go_upto_region 1 with fail
    obtain ⟨hK, hlt, hb⟩ := end_new w 1 d _ rfl
    generalize (w.alloc (Obj.cells #[Value.int IntKind.i8 1, Value.int IntKind.i64 d] 24)) = W1 at *
    obtain ⟨f0, f1⟩ := hK.duo
    clear hK
    go_wp2
    go_ret
    exact ⟨rfl, hb⟩
  · rw [e]; clear e
    have hd : (d == 0) = false := beq_eq_false_iff_ne.2 h
    clear h h0
    go_enter Tryd.func18, Tryd.ntmps18
    go_upto_region 1 with fail
    obtain ⟨hK, hlt, hb⟩ := end_new w (-1) d _ rfl
    generalize (w.alloc (Obj.cells #[Value.int IntKind.i8 (-1), Value.int IntKind.i64 d] 24)) = W1 at *
    obtain ⟨f0, f1⟩ := hK.duo
    clear hK
    go_wp2
    go_ret
    exact ⟨rfl, hb⟩
  · rw [e]; clear e
    have g0 : (i == 0) = false := beq_eq_false_iff_ne.2 h0
    have g1 : (i == 1) = false := beq_eq_false_iff_ne.2 h1
    have g2 : (i == -1) = false := beq_eq_false_iff_ne.2 h2
    clear h0 h1 h2
    go_enter Tryd.func18, Tryd.ntmps18
    go_upto_region 1 with fail
    obtain ⟨hK, hlt, hb⟩ := end_new w i d _ rfl
    generalize (w.alloc (Obj.cells #[Value.int IntKind.i8 i, Value.int IntKind.i64 d] 24)) = W1 at *
    obtain ⟨f0, f1⟩ := hK.duo
    clear hK
    go_wp2
    go_ret
    exact ⟨rfl, hb⟩

theorem enC_cases (i d j e : Int) : (i < j ∧ enC i d j e = -1) ∨ (¬ i < j ∧ j < i ∧ enC i d j e = 1) ∨ (¬ i < j ∧ ¬ j < i ∧ d < e ∧ enC i d j e = -1) ∨ (¬ i < j ∧ ¬ j < i ∧ ¬ d < e ∧ e < d ∧ enC i d j e = 1) ∨ (¬ i < j ∧ ¬ j < i ∧ ¬ d < e ∧ ¬ e < d ∧ enC i d j e = 0) := by
  unfold enC
  by_cases h1 : i < j
  · simp [h1]
  · by_cases h2 : j < i
    · simp [h1, h2]
    · by_cases h3 : d < e
      · simp [h1, h2, h3]
      · by_cases h4 : e < d <;> simp [h1, h2, h3, h4]
theorem cmpE_any (i d j e : Int) (w : World) :
    Calls Tryd.prog 9 #[E2 i d, E2 j e] w fun x w' => x = .returned (.int .i64 (enC i d j e)) ∧ Below w.heap.size w w' := by
  rcases enC_cases i d j e with ⟨h1, q⟩ | ⟨h1, h2, q⟩ | ⟨h1, h2, h3, q⟩ | ⟨h1, h2, h3, h4, q⟩ | ⟨h1, h2, h3, h4, q⟩
  all_goals
    rw [q]; clear q
    go_enter Tryd.func9, Tryd.ntmps9
    go_upto_region 1 with fail
    obtain ⟨hK, hL, -, hb⟩ := two_end w i d j e _ rfl
    generalize ((w.alloc (Obj.cells #[Value.int IntKind.i8 i, Value.int IntKind.i64 d] 24)).alloc (Obj.cells #[Value.int IntKind.i8 j, Value.int IntKind.i64 e] 24)) = W1 at *
    obtain ⟨f0, f1⟩ := hK.duo
    obtain ⟨l0, l1⟩ := hL.duo
    clear hK hL
    go_wp2
    go_ret
    exact ⟨rfl, hb⟩

set_option maxRecDepth 100000 in
theorem nxtE_any (i d : Int) (w : World) (hd : I64 d) :
    Calls Tryd.prog 15 #[E2 i d] w fun x w' => x = .returned (.tuple #[E2 (nxI i d) (nxD i d), .int .i64 (nxE i d)]) ∧ Below w.heap.size w w' := by
  have HC := Lib.hid (chkE_any i d)
  obtain ⟨d0, d1⟩ := hd
  rcases nxE_cases i d with ⟨e, rfl, rfl, q⟩ | ⟨e, rfl, h, q⟩ | ⟨e, rfl, rfl, q⟩ | ⟨e, rfl, rfl, q⟩ | ⟨e, q⟩
  all_goals
    rw [e] at HC
    rw [q.1, q.2.1, q.2.2]
    clear e q
  · go_enter Tryd.func15, Tryd.ntmps15
    go_upto_region 1 with fail
    obtain ⟨hK, hL, hs, hb⟩ := two_end w 0 9223372036854775807 0 0 _ rfl
    generalize ((w.alloc (Obj.cells #[Value.int IntKind.i8 0, Value.int IntKind.i64 9223372036854775807] 24)).alloc (Obj.cells #[Value.int IntKind.i8 0, Value.int IntKind.i64 0] 24)) = W1 at *
    obtain ⟨f0, f1⟩ := hK.duo
    go_upto_region 2 with (go_at_call 18; ((with_reducible refine (HC.out _).mono ?_); rintro e w2 ⟨rfl, hb2⟩))
    have hK2 := hK.below (by omega) hb2
    have hL2 := hL.below (by omega) hb2
    have hB2 := hb.trans (hb2.mono (by omega))
    clear hK hL hb hb2 hs f0 f1 HC
    obtain ⟨f0, f1⟩ := hK2.duo
    obtain ⟨l0, l1⟩ := hL2.duo
    have z0 := hL2.frozen 0
    have z1 := hL2.frozen 1
    have HL := Lib.hid hL2
    have HB := Lib.hid hB2
    clear hK2 hL2 hB2
    go_wp2_with fail
    exact bodyPost_ret (res_end2 rfl rfl rfl (HL.out.store 0 0).duo) rfl ⟨rfl, set2_below HB.out (by omega) 0 0⟩
  · have hq : (d == 9223372036854775807) = false := beq_eq_false_iff_ne.2 h
    have hd2 : d < 9223372036854775807 := by omega
    clear h
    go_enter Tryd.func15, Tryd.ntmps15
    go_upto_region 1 with fail
    obtain ⟨hK, hL, hs, hb⟩ := two_end w 0 d 0 0 _ rfl
    generalize ((w.alloc (Obj.cells #[Value.int IntKind.i8 0, Value.int IntKind.i64 d] 24)).alloc (Obj.cells #[Value.int IntKind.i8 0, Value.int IntKind.i64 0] 24)) = W1 at *
    obtain ⟨f0, f1⟩ := hK.duo
    go_upto_region 2 with (go_at_call 18; ((with_reducible refine (HC.out _).mono ?_); rintro e w2 ⟨rfl, hb2⟩))
    have hK2 := hK.below (by omega) hb2
    have hL2 := hL.below (by omega) hb2
    have hB2 := hb.trans (hb2.mono (by omega))
    clear hK hL hb hb2 hs f0 f1 HC
    obtain ⟨f0, f1⟩ := hK2.duo
    obtain ⟨l0, l1⟩ := hL2.duo
    have z0 := hL2.frozen 0
    have z1 := hL2.frozen 1
    have HL := Lib.hid hL2
    have HB := Lib.hid hB2
    clear hK2 hL2 hB2
    go_wp2_with fail
    exact bodyPost_ret (res_end2 rfl rfl rfl (HL.out.store 0 (d + 1)).duo) rfl ⟨rfl, set2_below HB.out (by omega) 0 (d + 1)⟩
  · go_enter Tryd.func15, Tryd.ntmps15
    go_upto_region 1 with fail
    obtain ⟨hK, hL, hs, hb⟩ := two_end w 1 0 0 0 _ rfl
    generalize ((w.alloc (Obj.cells #[Value.int IntKind.i8 1, Value.int IntKind.i64 0] 24)).alloc (Obj.cells #[Value.int IntKind.i8 0, Value.int IntKind.i64 0] 24)) = W1 at *
    obtain ⟨f0, f1⟩ := hK.duo
    go_upto_region 2 with (go_at_call 18; ((with_reducible refine (HC.out _).mono ?_); rintro e w2 ⟨rfl, hb2⟩))
    have hK2 := hK.below (by omega) hb2
    have hL2 := hL.below (by omega) hb2
    have hB2 := hb.trans (hb2.mono (by omega))
    clear hK hL hb hb2 hs f0 f1 HC
    obtain ⟨f0, f1⟩ := hK2.duo
    obtain ⟨l0, l1⟩ := hL2.duo
    have z0 := hL2.frozen 0
    have z1 := hL2.frozen 1
    have HL := Lib.hid hL2
    have HB := Lib.hid hB2
    clear hK2 hL2 hB2
    go_wp2_with fail
    exact bodyPost_ret (res_end2 rfl rfl rfl (HL.out.store 1 0).duo) rfl ⟨rfl, set2_below HB.out (by omega) 1 0⟩
  · go_enter Tryd.func15, Tryd.ntmps15
    go_upto_region 1 with fail
    obtain ⟨hK, hL, hs, hb⟩ := two_end w (-1) 0 0 0 _ rfl
    generalize ((w.alloc (Obj.cells #[Value.int IntKind.i8 (-1), Value.int IntKind.i64 0] 24)).alloc (Obj.cells #[Value.int IntKind.i8 0, Value.int IntKind.i64 0] 24)) = W1 at *
    obtain ⟨f0, f1⟩ := hK.duo
    go_upto_region 2 with (go_at_call 18; ((with_reducible refine (HC.out _).mono ?_); rintro e w2 ⟨rfl, hb2⟩))
    have hK2 := hK.below (by omega) hb2
    have hL2 := hL.below (by omega) hb2
    have hB2 := hb.trans (hb2.mono (by omega))
    clear hK hL hb hb2 hs f0 f1 HC
    obtain ⟨f0, f1⟩ := hK2.duo
    obtain ⟨l0, l1⟩ := hL2.duo
    have z0 := hL2.frozen 0
    have z1 := hL2.frozen 1
    have HL := Lib.hid hL2
    have HB := Lib.hid hB2
    clear hK2 hL2 hB2
    go_wp2_with fail
    exact bodyPost_ret (res_end2 rfl rfl rfl (HL.out.store (-1) 0).duo) rfl ⟨rfl, set2_below HB.out (by omega) (-1) 0⟩
  · go_enter Tryd.func15, Tryd.ntmps15
    go_upto_region 1 with fail
    obtain ⟨hK, hL, hs, hb⟩ := two_end w i d 0 0 _ rfl
    generalize ((w.alloc (Obj.cells #[Value.int IntKind.i8 i, Value.int IntKind.i64 d] 24)).alloc (Obj.cells #[Value.int IntKind.i8 0, Value.int IntKind.i64 0] 24)) = W1 at *
    obtain ⟨f0, f1⟩ := hK.duo
    go_upto_region 2 with (go_at_call 18; ((with_reducible refine (HC.out _).mono ?_); rintro e w2 ⟨rfl, hb2⟩))
    have hK2 := hK.below (by omega) hb2
    have hL2 := hL.below (by omega) hb2
    have hB2 := hb.trans (hb2.mono (by omega))
    clear hK hL hb hb2 hs f0 f1 HC
    obtain ⟨f0, f1⟩ := hK2.duo
    obtain ⟨l0, l1⟩ := hL2.duo
    have z0 := hL2.frozen 0
    have z1 := hL2.frozen 1
    have HL := Lib.hid hL2
    have HB := Lib.hid hB2
    clear hK2 hL2 hB2
    go_wp2_with fail
    exact bodyPost_ret (res_end2 rfl rfl rfl (HL.out.store 0 0).duo) rfl ⟨rfl, set2_below HB.out (by omega) 0 0⟩

set_option maxRecDepth 100000 in
theorem prvE_any (i d : Int) (w : World) (hd : I64 d) :
    Calls Tryd.prog 16 #[E2 i d] w fun x w' => x = .returned (.tuple #[E2 (pvI i d) (pvD i d), .int .i64 (pvE i d)]) ∧ Below w.heap.size w w' := by
  have HC := Lib.hid (chkE_any i d)
  obtain ⟨d0, d1⟩ := hd
  rcases pvE_cases i d with ⟨e, rfl, rfl, q⟩ | ⟨e, rfl, h, q⟩ | ⟨e, rfl, rfl, q⟩ | ⟨e, rfl, rfl, q⟩ | ⟨e, q⟩
  all_goals
    rw [e] at HC
    rw [q.1, q.2.1, q.2.2]
    clear e q
  · go_enter Tryd.func16, Tryd.ntmps16
    go_upto_region 1 with fail
    obtain ⟨hK, hL, hs, hb⟩ := two_end w 0 (-9223372036854775808) 0 0 _ rfl
    generalize ((w.alloc (Obj.cells #[Value.int IntKind.i8 0, Value.int IntKind.i64 (-9223372036854775808)] 24)).alloc (Obj.cells #[Value.int IntKind.i8 0, Value.int IntKind.i64 0] 24)) = W1 at *
    obtain ⟨f0, f1⟩ := hK.duo
    go_upto_region 2 with (go_at_call 18; ((with_reducible refine (HC.out _).mono ?_); rintro e w2 ⟨rfl, hb2⟩))
    have hK2 := hK.below (by omega) hb2
    have hL2 := hL.below (by omega) hb2
    have hB2 := hb.trans (hb2.mono (by omega))
    clear hK hL hb hb2 hs f0 f1 HC
    obtain ⟨f0, f1⟩ := hK2.duo
    obtain ⟨l0, l1⟩ := hL2.duo
    have z0 := hL2.frozen 0
    have z1 := hL2.frozen 1
    have HL := Lib.hid hL2
    have HB := Lib.hid hB2
    clear hK2 hL2 hB2
    go_wp2_with fail
    exact bodyPost_ret (res_end2 rfl rfl rfl (HL.out.store 0 0).duo) rfl ⟨rfl, set2_below HB.out (by omega) 0 0⟩
  · have hq : (d == (-9223372036854775808)) = false := beq_eq_false_iff_ne.2 h
    have hd2 : -9223372036854775808 < d := by omega
    clear h
    go_enter Tryd.func16, Tryd.ntmps16
    go_upto_region 1 with fail
    obtain ⟨hK, hL, hs, hb⟩ := two_end w 0 d 0 0 _ rfl
    generalize ((w.alloc (Obj.cells #[Value.int IntKind.i8 0, Value.int IntKind.i64 d] 24)).alloc (Obj.cells #[Value.int IntKind.i8 0, Value.int IntKind.i64 0] 24)) = W1 at *
    obtain ⟨f0, f1⟩ := hK.duo
    go_upto_region 2 with (go_at_call 18; ((with_reducible refine (HC.out _).mono ?_); rintro e w2 ⟨rfl, hb2⟩))
    have hK2 := hK.below (by omega) hb2
    have hL2 := hL.below (by omega) hb2
    have hB2 := hb.trans (hb2.mono (by omega))
    clear hK hL hb hb2 hs f0 f1 HC
    obtain ⟨f0, f1⟩ := hK2.duo
    obtain ⟨l0, l1⟩ := hL2.duo
    have z0 := hL2.frozen 0
    have z1 := hL2.frozen 1
    have HL := Lib.hid hL2
    have HB := Lib.hid hB2
    clear hK2 hL2 hB2
    go_wp2_with fail
    exact bodyPost_ret (res_end2 rfl rfl rfl (HL.out.store 0 (d - 1)).duo) rfl ⟨rfl, set2_below HB.out (by omega) 0 (d - 1)⟩
  · go_enter Tryd.func16, Tryd.ntmps16
    go_upto_region 1 with fail
    obtain ⟨hK, hL, hs, hb⟩ := two_end w 1 0 0 0 _ rfl
    generalize ((w.alloc (Obj.cells #[Value.int IntKind.i8 1, Value.int IntKind.i64 0] 24)).alloc (Obj.cells #[Value.int IntKind.i8 0, Value.int IntKind.i64 0] 24)) = W1 at *
    obtain ⟨f0, f1⟩ := hK.duo
    go_upto_region 2 with (go_at_call 18; ((with_reducible refine (HC.out _).mono ?_); rintro e w2 ⟨rfl, hb2⟩))
    have hK2 := hK.below (by omega) hb2
    have hL2 := hL.below (by omega) hb2
    have hB2 := hb.trans (hb2.mono (by omega))
    clear hK hL hb hb2 hs f0 f1 HC
    obtain ⟨f0, f1⟩ := hK2.duo
    obtain ⟨l0, l1⟩ := hL2.duo
    have z0 := hL2.frozen 0
    have z1 := hL2.frozen 1
    have HL := Lib.hid hL2
    have HB := Lib.hid hB2
    clear hK2 hL2 hB2
    go_wp2_with fail
    exact bodyPost_ret (res_end2 rfl rfl rfl (HL.out.store 1 0).duo) rfl ⟨rfl, set2_below HB.out (by omega) 1 0⟩
  · go_enter Tryd.func16, Tryd.ntmps16
    go_upto_region 1 with fail
    obtain ⟨hK, hL, hs, hb⟩ := two_end w (-1) 0 0 0 _ rfl
    generalize ((w.alloc (Obj.cells #[Value.int IntKind.i8 (-1), Value.int IntKind.i64 0] 24)).alloc (Obj.cells #[Value.int IntKind.i8 0, Value.int IntKind.i64 0] 24)) = W1 at *
    obtain ⟨f0, f1⟩ := hK.duo
    go_upto_region 2 with (go_at_call 18; ((with_reducible refine (HC.out _).mono ?_); rintro e w2 ⟨rfl, hb2⟩))
    have hK2 := hK.below (by omega) hb2
    have hL2 := hL.below (by omega) hb2
    have hB2 := hb.trans (hb2.mono (by omega))
    clear hK hL hb hb2 hs f0 f1 HC
    obtain ⟨f0, f1⟩ := hK2.duo
    obtain ⟨l0, l1⟩ := hL2.duo
    have z0 := hL2.frozen 0
    have z1 := hL2.frozen 1
    have HL := Lib.hid hL2
    have HB := Lib.hid hB2
    clear hK2 hL2 hB2
    go_wp2_with fail
    exact bodyPost_ret (res_end2 rfl rfl rfl (HL.out.store (-1) 0).duo) rfl ⟨rfl, set2_below HB.out (by omega) (-1) 0⟩
  · go_enter Tryd.func16, Tryd.ntmps16
    go_upto_region 1 with fail
    obtain ⟨hK, hL, hs, hb⟩ := two_end w i d 0 0 _ rfl
    generalize ((w.alloc (Obj.cells #[Value.int IntKind.i8 i, Value.int IntKind.i64 d] 24)).alloc (Obj.cells #[Value.int IntKind.i8 0, Value.int IntKind.i64 0] 24)) = W1 at *
    obtain ⟨f0, f1⟩ := hK.duo
    go_upto_region 2 with (go_at_call 18; ((with_reducible refine (HC.out _).mono ?_); rintro e w2 ⟨rfl, hb2⟩))
    have hK2 := hK.below (by omega) hb2
    have hL2 := hL.below (by omega) hb2
    have hB2 := hb.trans (hb2.mono (by omega))
    clear hK hL hb hb2 hs f0 f1 HC
    obtain ⟨f0, f1⟩ := hK2.duo
    obtain ⟨l0, l1⟩ := hL2.duo
    have z0 := hL2.frozen 0
    have z1 := hL2.frozen 1
    have HL := Lib.hid hL2
    have HB := Lib.hid hB2
    clear hK2 hL2 hB2
    go_wp2_with fail
    exact bodyPost_ret (res_end2 rfl rfl rfl (HL.out.store 0 0).duo) rfl ⟨rfl, set2_below HB.out (by omega) 0 0⟩
end Go.Proofs.YtjgaoajbcbpbbaaDoor
