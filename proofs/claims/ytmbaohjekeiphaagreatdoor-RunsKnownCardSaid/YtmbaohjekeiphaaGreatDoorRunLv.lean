/- The examples of the chapter hold. -/
import Derived.Test.YtmbaohjekeiphaaGreatDoorLawK
namespace Go.Proofs.YtmbaohjekeiphaaGreatDoor.run9
open Go.RowKit

instance (n : Int) : Decidable (I8 n) := inferInstanceAs (Decidable (_ ∧ _))
theorem in_lit (r : Ru) (h : I8 r.i ∧ I64 r.d ∧ I8 r.j ∧ I64 r.e) : r.In := h
theorem ru_lit {r s : Ru} (h : r.i = s.i ∧ r.d = s.d ∧ r.j = s.j ∧ r.e = s.e) : r = s := Ru.eq h.1 h.2.1 h.2.2.1 h.2.2.2

set_option maxRecDepth 100000 in
set_option maxHeartbeats 8000000 in
theorem lives_law (w W : World) (ho : Ok w W) : Calls Tryz.prog 23 #[] W fun e w' => e = .returned (.bool true) ∧ Ok w w' := by
  have DT13 : Hid (∀ B X, Ok B X → Calls Tryz.prog 28 #[.int .i64 1, .int .i64 3] X fun x w' => x = .returned (U4 0 1 0 3) ∧ Ok B w') := fun B X hX => c_eq hX rfl (days_any 1 3 X)
  have DT45 : Hid (∀ B X, Ok B X → Calls Tryz.prog 28 #[.int .i64 4, .int .i64 5] X fun x w' => x = .returned (U4 0 4 0 5) ∧ Ok B w') := fun B X hX => c_eq hX rfl (days_any 4 5 X)
  have T1 : Hid (∀ B X, Ok B X → Calls Tryz.prog 15 #[U4 0 1 0 3, U4 0 4 0 5] X fun x w' => x = .returned (.bool true) ∧ Ok B w') := fun B X hX => k_touch hX ⟨0, 1, 0, 3⟩ ⟨0, 4, 0, 5⟩ (in_lit _ (by decide)) (in_lit _ (by decide)) (by decide)
  have D56 : Hid (∀ B X, Ok B X → Calls Tryz.prog 28 #[.int .i64 5, .int .i64 6] X fun x w' => x = .returned (U4 0 5 0 6) ∧ Ok B w') := fun B X hX => c_eq hX rfl (days_any 5 6 X)
  have T2 : Hid (∀ B X, Ok B X → Calls Tryz.prog 15 #[U4 0 1 0 3, U4 0 5 0 6] X fun x w' => x = .returned (.bool false) ∧ Ok B w') := fun B X hX => k_touch hX ⟨0, 1, 0, 3⟩ ⟨0, 5, 0, 6⟩ (in_lit _ (by decide)) (in_lit _ (by decide)) (by decide)
  have T3 : Hid (∀ B X, Ok B X → Calls Tryz.prog 15 #[U4 (-1) 0 0 3, U4 0 2 1 0] X fun x w' => x = .returned (.bool true) ∧ Ok B w') := fun B X hX => k_touch hX ⟨-1, 0, 0, 3⟩ ⟨0, 2, 1, 0⟩ (in_lit _ (by decide)) (in_lit _ (by decide)) (by decide)
  have J1 : Hid (∀ B X, Ok B X → Calls Tryz.prog 13 #[U4 0 1 0 3, U4 0 4 0 5] X fun x w' => x = .returned (.tuple #[U4 0 1 0 5, .bool true]) ∧ Ok B w') := fun B X hX => k_join hX ⟨0, 1, 0, 3⟩ ⟨0, 4, 0, 5⟩ (in_lit _ (by decide)) (in_lit _ (by decide)) (r := ⟨0, 1, 0, 5⟩) (ru_lit (by decide)) (by decide)
  have DT39 : Hid (∀ B X, Ok B X → Calls Tryz.prog 28 #[.int .i64 3, .int .i64 9] X fun x w' => x = .returned (U4 0 3 0 9) ∧ Ok B w') := fun B X hX => c_eq hX rfl (days_any 3 9 X)
  have CT : Hid (∀ B X, Ok B X → Calls Tryz.prog 14 #[U4 0 1 0 3, U4 0 3 0 9] X fun x w' => x = .returned (.tuple #[U4 0 3 0 3, .bool true]) ∧ Ok B w') := fun B X hX => k_common hX ⟨0, 1, 0, 3⟩ ⟨0, 3, 0, 9⟩ (in_lit _ (by decide)) (in_lit _ (by decide)) (r := ⟨0, 3, 0, 3⟩) (ru_lit (by decide)) (by decide)
  have C2 : Hid (∀ B X, Ok B X → Calls Tryz.prog 14 #[U4 0 1 0 3, U4 0 4 0 5] X fun x w' => x = .returned (.tuple #[U4 0 0 0 0, .bool false]) ∧ Ok B w') := fun B X hX => k_common hX ⟨0, 1, 0, 3⟩ ⟨0, 4, 0, 5⟩ (in_lit _ (by decide)) (in_lit _ (by decide)) (r := ⟨0, 0, 0, 0⟩) (ru_lit (by decide)) (by decide)
  have D15 : Hid (∀ B X, Ok B X → Calls Tryz.prog 28 #[.int .i64 1, .int .i64 5] X fun x w' => x = .returned (U4 0 1 0 5) ∧ Ok B w') := fun B X hX => c_eq hX rfl (days_any 1 5 X)
  have D33 : Hid (∀ B X, Ok B X → Calls Tryz.prog 28 #[.int .i64 3, .int .i64 3] X fun x w' => x = .returned (U4 0 3 0 3) ∧ Ok B w') := fun B X hX => c_eq hX rfl (days_any 3 3 X)
  have F1 : Hid (∀ B X, Ok B X → Calls Tryz.prog 16 #[U4 0 1 0 5, .bool true, U4 0 1 0 5, .bool true] X fun x w' => x = .returned (.bool true) ∧ Ok B w') := fun B X hX => f_ok hX ⟨0, 1, 0, 5⟩
  have F2 : Hid (∀ B X, Ok B X → Calls Tryz.prog 16 #[U4 0 3 0 3, .bool true, U4 0 3 0 3, .bool true] X fun x w' => x = .returned (.bool true) ∧ Ok B w') := fun B X hX => f_ok hX ⟨0, 3, 0, 3⟩
  have F3 : Hid (∀ B X, Ok B X → Calls Tryz.prog 16 #[U4 0 0 0 0, .bool false, U4 0 1 0 3, .bool false] X fun x w' => x = .returned (.bool true) ∧ Ok B w') := fun B X hX => f_no hX ⟨0, 1, 0, 3⟩
  have D35 : Hid (∀ B X, Ok B X → Calls Tryz.prog 28 #[.int .i64 3, .int .i64 5] X fun x w' => x = .returned (U4 0 3 0 5) ∧ Ok B w') := fun B X hX => c_eq hX rfl (days_any 3 5 X)
  have DM : Hid (∀ B X, Ok B X → Calls Tryz.prog 28 #[.int .i64 (-1), .int .i64 9223372036854775807] X fun x w' => x = .returned (U4 0 (-1) 0 9223372036854775807) ∧ Ok B w') := fun B X hX => c_eq hX rfl (days_any (-1) 9223372036854775807 X)
  have D0M : Hid (∀ B X, Ok B X → Calls Tryz.prog 28 #[.int .i64 0, .int .i64 9223372036854775807] X fun x w' => x = .returned (U4 0 0 0 9223372036854775807) ∧ Ok B w') := fun B X hX => c_eq hX rfl (days_any 0 9223372036854775807 X)
  have L1 : Hid (∀ B X, Ok B X → Calls Tryz.prog 24 #[U4 0 3 0 5] X fun x w' => x = .returned (.tuple #[.int .i64 3, .int .i64 0]) ∧ Ok B w') := fun B X hX => c_eq hX (by rw [show leV ⟨0, 3, 0, 5⟩ = 3 from by decide, show leE ⟨0, 3, 0, 5⟩ = 0 from by decide]) (run_len ⟨0, 3, 0, 5⟩ X hX.1 (in_lit _ (by decide)))
  have L2 : Hid (∀ B X, Ok B X → Calls Tryz.prog 24 #[U4 (-1) 0 0 3] X fun x w' => x = .returned (.tuple #[.int .i64 0, .int .i64 16]) ∧ Ok B w') := fun B X hX => c_eq hX (by rw [show leV ⟨-1, 0, 0, 3⟩ = 0 from by decide, show leE ⟨-1, 0, 0, 3⟩ = 16 from by decide]) (run_len ⟨-1, 0, 0, 3⟩ X hX.1 (in_lit _ (by decide)))
  have L3 : Hid (∀ B X, Ok B X → Calls Tryz.prog 24 #[U4 0 (-1) 0 9223372036854775807] X fun x w' => x = .returned (.tuple #[.int .i64 0, .int .i64 15]) ∧ Ok B w') := fun B X hX => c_eq hX (by rw [show leV ⟨0, -1, 0, 9223372036854775807⟩ = 0 from by decide, show leE ⟨0, -1, 0, 9223372036854775807⟩ = 15 from by decide]) (run_len ⟨0, -1, 0, 9223372036854775807⟩ X hX.1 (in_lit _ (by decide)))
  have H1 : Hid (∀ B X, Ok B X → Calls Tryz.prog 21 #[U4 (-1) 0 0 3, .int .i64 (-9223372036854775808)] X fun x w' => x = .returned (.bool true) ∧ Ok B w') := fun B X hX => k_has hX ⟨-1, 0, 0, 3⟩ (-9223372036854775808) (in_lit _ (by decide)) (by constructor <;> decide) (by decide)
  have S1 : Hid (∀ B X, Ok B X → Calls Tryz.prog 25 #[U4 0 3 1 0, .int .i64 (-4)] X fun x w' => x = .returned (.tuple #[U4 0 (-1) 1 0, .int .i64 0]) ∧ Ok B w') := fun B X hX => c_eq hX (by rw [show shR ⟨0, 3, 1, 0⟩ (-4) = ⟨0, -1, 1, 0⟩ from ru_lit (by decide), show shE ⟨0, 3, 1, 0⟩ (-4) = 0 from by decide]) (run_shift ⟨0, 3, 1, 0⟩ (-4) X hX.1 (in_lit _ (by decide)) (by constructor <;> decide))
  have S2 : Hid (∀ B X, Ok B X → Calls Tryz.prog 25 #[U4 0 0 0 9223372036854775807, .int .i64 1] X fun x w' => x = .returned (.tuple #[U4 0 0 0 0, .int .i64 15]) ∧ Ok B w') := fun B X hX => c_eq hX (by rw [show shR ⟨0, 0, 0, 9223372036854775807⟩ 1 = ⟨0, 0, 0, 0⟩ from ru_lit (by decide), show shE ⟨0, 0, 0, 9223372036854775807⟩ 1 = 15 from by decide]) (run_shift ⟨0, 0, 0, 9223372036854775807⟩ 1 X hX.1 (in_lit _ (by decide)) (by constructor <;> decide))
  have G1 : Hid (∀ B X, Ok B X → Calls Tryz.prog 27 #[U4 0 (-1) 1 0, .int .i64 0, U4 0 (-1) 1 0, .int .i64 0] X fun x w' => x = .returned (.bool true) ∧ Ok B w') := fun B X hX => c_eq hX rfl (gives_ok 0 (-1) 1 0 X)
  have G2 : Hid (∀ B X, Ok B X → Calls Tryz.prog 27 #[U4 0 0 0 0, .int .i64 15, U4 0 1 0 3, .int .i64 15] X fun x w' => x = .returned (.bool true) ∧ Ok B w') := fun B X hX => c_eq hX rfl (gives_bad 0 1 0 3 15 X (by decide))
  have Pp1 : Hid (∀ B X, Ok B X → Calls Tryz.prog 31 #[.string ⟨#[45, 105, 110, 102, 46, 46, 45, 51]⟩] X fun x w' => x = .returned (.tuple #[U4 (-1) 0 0 (-3), .int .i64 0]) ∧ Ok B w') := fun B X hX => c_eq hX (by rw [show prR ⟨#[45, 105, 110, 102, 46, 46, 45, 51]⟩ = ⟨-1, 0, 0, -3⟩ from ru_lit (by decide), show prRE ⟨#[45, 105, 110, 102, 46, 46, 45, 51]⟩ = 0 from by decide]) (run_parse ⟨#[45, 105, 110, 102, 46, 46, 45, 51]⟩ X hX.1 (by decide))
  have Pp2 : Hid (∀ B X, Ok B X → Calls Tryz.prog 31 #[.string ⟨#[53, 46, 46, 51]⟩] X fun x w' => x = .returned (.tuple #[U4 0 0 0 0, .int .i64 12]) ∧ Ok B w') := fun B X hX => c_eq hX (by rw [show prR ⟨#[53, 46, 46, 51]⟩ = ⟨0, 0, 0, 0⟩ from ru_lit (by decide), show prRE ⟨#[53, 46, 46, 51]⟩ = 12 from by decide]) (run_parse ⟨#[53, 46, 46, 51]⟩ X hX.1 (by decide))
  have Pp3 : Hid (∀ B X, Ok B X → Calls Tryz.prog 31 #[.string ⟨#[105, 110, 102, 46, 46, 105, 110, 102]⟩] X fun x w' => x = .returned (.tuple #[U4 0 0 0 0, .int .i64 4]) ∧ Ok B w') := fun B X hX => c_eq hX (by rw [show prR ⟨#[105, 110, 102, 46, 46, 105, 110, 102]⟩ = ⟨0, 0, 0, 0⟩ from ru_lit (by decide), show prRE ⟨#[105, 110, 102, 46, 46, 105, 110, 102]⟩ = 4 from by decide]) (run_parse ⟨#[105, 110, 102, 46, 46, 105, 110, 102]⟩ X hX.1 (by decide))
  have Pp4 : Hid (∀ B X, Ok B X → Calls Tryz.prog 31 #[.string ⟨#[49, 46, 46, 46, 51]⟩] X fun x w' => x = .returned (.tuple #[U4 0 0 0 0, .int .i64 5]) ∧ Ok B w') := fun B X hX => c_eq hX (by rw [show prR ⟨#[49, 46, 46, 46, 51]⟩ = ⟨0, 0, 0, 0⟩ from ru_lit (by decide), show prRE ⟨#[49, 46, 46, 46, 51]⟩ = 5 from by decide]) (run_parse ⟨#[49, 46, 46, 46, 51]⟩ X hX.1 (by decide))
  have G3 : Hid (∀ B X, Ok B X → Calls Tryz.prog 27 #[U4 (-1) 0 0 (-3), .int .i64 0, U4 (-1) 0 0 (-3), .int .i64 0] X fun x w' => x = .returned (.bool true) ∧ Ok B w') := fun B X hX => c_eq hX rfl (gives_ok (-1) 0 0 (-3) X)
  have G4 : Hid (∀ B X, Ok B X → Calls Tryz.prog 27 #[U4 0 0 0 0, .int .i64 12, U4 (-1) 0 0 (-3), .int .i64 12] X fun x w' => x = .returned (.bool true) ∧ Ok B w') := fun B X hX => c_eq hX rfl (gives_bad (-1) 0 0 (-3) 12 X (by decide))
  have G5 : Hid (∀ B X, Ok B X → Calls Tryz.prog 27 #[U4 0 0 0 0, .int .i64 4, U4 (-1) 0 0 (-3), .int .i64 4] X fun x w' => x = .returned (.bool true) ∧ Ok B w') := fun B X hX => c_eq hX rfl (gives_bad (-1) 0 0 (-3) 4 X (by decide))
  have G6 : Hid (∀ B X, Ok B X → Calls Tryz.prog 27 #[U4 0 0 0 0, .int .i64 5, U4 (-1) 0 0 (-3), .int .i64 5] X fun x w' => x = .returned (.bool true) ∧ Ok B w') := fun B X hX => c_eq hX rfl (gives_bad (-1) 0 0 (-3) 5 X (by decide))
  go_enter Tryz.func23, Tryz.ntmps23
  have oo := ho
  clear ho
  have oc := Ok.refl oo.1
  go_upto_region 2 with fail
  obtain ⟨hlo, zlo, tlo⟩ := end_new2 W (-1) 0 _ rfl
  generalize (W.alloc (Obj.cells #[Value.int IntKind.i8 (-1), Value.int IntKind.i64 0] 24)) = V1 at *
  have elo : w.heap.size ≤ W.heap.size := (oo.step oc.2).2.size
  have llo : W.heap.size < V1.heap.size := by omega
  have ocY := oc.step tlo
  have oo' := oo.step ocY.2
  clear ocY oo oc
  have oo := oo'
  clear oo'
  have oc := Ok.refl oo.1
  have zz1 : V1.heap.size = W.heap.size + 1 := zlo
  clear tlo zlo
  obtain ⟨hhi, zhi, thi⟩ := end_new2 V1 1 0 _ rfl
  generalize (V1.alloc (Obj.cells #[Value.int IntKind.i8 1, Value.int IntKind.i64 0] 24)) = V2 at *
  have ehi : w.heap.size ≤ V1.heap.size := (oo.step oc.2).2.size
  have lhi : V1.heap.size < V2.heap.size := by omega
  have ocY := oc.step thi
  have hlo' := hlo.below llo ocY.2
  have llo' := Nat.lt_of_lt_of_le llo ocY.2.size
  (try clear lo0 lo1)
  have oo' := oo.step ocY.2
  clear ocY oo oc hlo llo
  have hlo := hlo'
  have llo := llo'
  clear hlo' llo'
  have oo := oo'
  clear oo'
  have oc := Ok.refl oo.1
  rw [zz1] at hhi lhi ehi zhi
  have zz2 : V2.heap.size = W.heap.size + 1 + 1 := zhi
  clear zz1
  clear thi zhi
  (try clear zz2)
  generalize W.heap.size + 1 = ghi at *
  generalize W.heap.size = glo at *
  obtain ⟨lo0, lo1⟩ := (id hlo).duo
  obtain ⟨hi0, hi1⟩ := (id hhi).duo
  go_cut [3, 4, 5] (fun v3 v4 v5 wx => ∃ gPA gPB gPU, v3 = .pointer (some ⟨gPA, 0, none⟩) ∧ v4 = .pointer (some ⟨gPB, 0, none⟩) ∧ v5 = .pointer (some ⟨gPU, 0, none⟩) ∧ (BkU wx gPA 0 1 0 3 ∧ gPA < wx.heap.size ∧ w.heap.size ≤ gPA) ∧ (BkU wx gPB 0 4 0 5 ∧ gPB < wx.heap.size ∧ w.heap.size ≤ gPB) ∧ (BkU wx gPU (-1) 0 0 3 ∧ gPU < wx.heap.size ∧ w.heap.size ≤ gPU) ∧ (gPA ≠ gPB ∧ gPA ≠ gPU ∧ gPB ≠ gPU) ∧ Ok V2 wx)
  case first =>
    (try clear lo0 lo1 hi0 hi1)
    have HF := Lib.hid (fun X (h : Ok V2 X) => And.intro (hlo.below llo h.2).duo (And.intro (hhi.below lhi h.2).duo (trivial)))
    refine wp_region_G (S := (Ok V2)) (by kernel_rfl) growsB (oc.step (by go_grown)) ?_
    refine cG (i := 0) (o := ?or2n0) growsB ?ir2n0 (by kernel_rfl) ?qr2n0 ?wr2n0 ?er2n0 (fun X hX => callO DT13.out hX) ?rr2n0
    case ir2n0 => (simp only [gA, gZ]; rfl)
    case qr2n0 => exact fun _ _ _ h => h
    case wr2n0 => rfl
    case er2n0 => (intro w; go_simp; try with_reducible rfl)
    (try simp only [Act.put, pA, pZ, pS])
    refine cG (i := 1) (o := ?or2n1) growsB ?ir2n1 (by kernel_rfl) ?qr2n1 ?wr2n1 ?er2n1 (fun X hX => callO DT45.out hX) ?rr2n1
    case ir2n1 => (simp only [gA, gS, gZ]; rfl)
    case qr2n1 => exact fun _ _ _ h => h
    case wr2n1 => rfl
    case er2n1 => (intro w; go_simp; try with_reducible rfl)
    (try simp only [Act.put, pA, pZ, pS])
    refine tG (i := 2) (o := ?or2n2) (v := ?vr2n2) growsB ?ir2n2 (by kernel_rfl) ?qr2n2 ?yr2n2 ?rr2n2
    case ir2n2 => (simp only [gA, gS, gZ]; rfl)
    case qr2n2 => exact fun _ _ _ h => h
    case yr2n2 => exact .inl ⟨by rfl, by (intro w hSw; obtain ⟨⟨lo0, lo1⟩, ⟨hi0, hi1⟩, -⟩ := HF.out w hSw; go_simp; try with_reducible rfl)⟩
    (try simp only [Act.put, pA, pZ, pS])
    refine tG (i := 3) (o := ?or2n3) (v := ?vr2n3) growsB ?ir2n3 (by kernel_rfl) ?qr2n3 ?yr2n3 ?rr2n3
    case ir2n3 => (simp only [gA, gS, gZ]; rfl)
    case qr2n3 => exact fun _ _ _ h => h
    case yr2n3 => exact .inl ⟨by rfl, by (intro w hSw; obtain ⟨⟨lo0, lo1⟩, ⟨hi0, hi1⟩, -⟩ := HF.out w hSw; go_simp; try with_reducible rfl)⟩
    (try simp only [Act.put, pA, pZ, pS])
    refine tG (i := 4) (o := ?or2n4) (v := ?vr2n4) growsB ?ir2n4 (by kernel_rfl) ?qr2n4 ?yr2n4 ?rr2n4
    case ir2n4 => (simp only [gA, gS, gZ]; rfl)
    case qr2n4 => exact fun _ _ _ h => h
    case yr2n4 => exact .inl ⟨by rfl, by (intro w hSw; obtain ⟨⟨lo0, lo1⟩, ⟨hi0, hi1⟩, -⟩ := HF.out w hSw; go_simp; try with_reducible rfl)⟩
    (try simp only [Act.put, pA, pZ, pS])
    clear HF oc
    refine wpAnyG_ready (rs := [5, 6, 7]) (by kernel_rfl) (by simp) ?_
    intro X1 hO hT
    clear hT
    refine AllReadyG.cons (o := ?oit1n5) ?hot1n5 ?hKt1n5 (AllReadyG.cons (o := ?oit1n6) ?hot1n6 ?hKt1n6 (AllReadyG.cons (o := ?oit1n7) ?hot1n7 ?hKt1n7 AllReadyG.nil))
    case hot1n5 => (simp only [List.getElem?_toArray, List.getElem?_cons_succ, List.getElem?_cons_zero]; rfl)
    case hot1n6 => (simp only [List.getElem?_toArray, List.getElem?_cons_succ, List.getElem?_cons_zero]; rfl)
    case hot1n7 => (simp only [List.getElem?_toArray, List.getElem?_cons_succ, List.getElem?_cons_zero]; rfl)
    case hKt1n5 =>
      intro KK hKK
      go_simp
      obtain ⟨nPA, zPA, tPA⟩ := run_new X1 0 0 0 0 _ rfl
      have hO2 := hO.step tPA
      have lPA : X1.heap.size < (X1.alloc (Obj.cells #[Value.int IntKind.i8 0, Value.int IntKind.i64 0, Value.int IntKind.i8 0, Value.int IntKind.i64 0] 26)).heap.size := by omega
      have bPA : V2.heap.size ≤ X1.heap.size := hO.2.size
      refine hKK.out _ _ hO2 (fun _ => ?_)
      clear hKK KK hO hO2 zPA tPA
      generalize (X1.alloc (Obj.cells #[Value.int IntKind.i8 0, Value.int IntKind.i64 0, Value.int IntKind.i8 0, Value.int IntKind.i64 0] 26)) = Y2 at *
      generalize X1.heap.size = gPA at *
      (try simp only [Act.put, List.setIfInBounds_toArray, List.set_cons_zero, List.set_cons_succ])
      refine wpAnyG_ready (rs := [6, 7]) (by kernel_rfl) (by simp) ?_
      intro X3 hO hT
      have nPA' := nPA.below lPA hT
      have lPA' := Nat.lt_of_lt_of_le lPA hT.size
      clear nPA lPA
      have nPA := nPA'
      have lPA := lPA'
      clear nPA' lPA'
      clear hT
      refine AllReadyG.cons (o := ?oit3n6) ?hot3n6 ?hKt3n6 (AllReadyG.cons (o := ?oit3n7) ?hot3n7 ?hKt3n7 AllReadyG.nil)
      case hot3n6 => (simp only [List.getElem?_toArray, List.getElem?_cons_succ, List.getElem?_cons_zero]; rfl)
      case hot3n7 => (simp only [List.getElem?_toArray, List.getElem?_cons_succ, List.getElem?_cons_zero]; rfl)
      case hKt3n6 =>
        intro KK hKK
        go_simp
        obtain ⟨nPB, zPB, tPB⟩ := run_new X3 0 0 0 0 _ rfl
        have hO2 := hO.step tPB
        have lPB : X3.heap.size < (X3.alloc (Obj.cells #[Value.int IntKind.i8 0, Value.int IntKind.i64 0, Value.int IntKind.i8 0, Value.int IntKind.i64 0] 26)).heap.size := by omega
        have bPB : V2.heap.size ≤ X3.heap.size := hO.2.size
        have dPAPB : gPA ≠ X3.heap.size := Nat.ne_of_lt lPA
        have dPBPA := dPAPB.symm
        have nPA' := nPA.below lPA tPB
        have lPA' := Nat.lt_of_lt_of_le lPA tPB.size
        clear nPA lPA
        have nPA := nPA'
        have lPA := lPA'
        clear nPA' lPA'
        refine hKK.out _ _ hO2 (fun _ => ?_)
        clear hKK KK hO hO2 zPB tPB
        generalize (X3.alloc (Obj.cells #[Value.int IntKind.i8 0, Value.int IntKind.i64 0, Value.int IntKind.i8 0, Value.int IntKind.i64 0] 26)) = Y4 at *
        generalize X3.heap.size = gPB at *
        (try simp only [Act.put, List.setIfInBounds_toArray, List.set_cons_zero, List.set_cons_succ])
        refine wpAnyG_ready (rs := [7]) (by kernel_rfl) (by simp) ?_
        intro X5 hO hT
        have nPA' := nPA.below lPA hT
        have lPA' := Nat.lt_of_lt_of_le lPA hT.size
        clear nPA lPA
        have nPA := nPA'
        have lPA := lPA'
        clear nPA' lPA'
        have nPB' := nPB.below lPB hT
        have lPB' := Nat.lt_of_lt_of_le lPB hT.size
        clear nPB lPB
        have nPB := nPB'
        have lPB := lPB'
        clear nPB' lPB'
        clear hT
        refine AllReadyG.cons (o := ?oit5n7) ?hot5n7 ?hKt5n7 AllReadyG.nil
        case hot5n7 => (simp only [List.getElem?_toArray, List.getElem?_cons_succ, List.getElem?_cons_zero]; rfl)
        case hKt5n7 =>
          intro KK hKK
          go_simp
          obtain ⟨nPU, zPU, tPU⟩ := run_new X5 0 0 0 0 _ rfl
          have hO2 := hO.step tPU
          have lPU : X5.heap.size < (X5.alloc (Obj.cells #[Value.int IntKind.i8 0, Value.int IntKind.i64 0, Value.int IntKind.i8 0, Value.int IntKind.i64 0] 26)).heap.size := by omega
          have bPU : V2.heap.size ≤ X5.heap.size := hO.2.size
          have dPAPU : gPA ≠ X5.heap.size := Nat.ne_of_lt lPA
          have dPUPA := dPAPU.symm
          have nPA' := nPA.below lPA tPU
          have lPA' := Nat.lt_of_lt_of_le lPA tPU.size
          clear nPA lPA
          have nPA := nPA'
          have lPA := lPA'
          clear nPA' lPA'
          have dPBPU : gPB ≠ X5.heap.size := Nat.ne_of_lt lPB
          have dPUPB := dPBPU.symm
          have nPB' := nPB.below lPB tPU
          have lPB' := Nat.lt_of_lt_of_le lPB tPU.size
          clear nPB lPB
          have nPB := nPB'
          have lPB := lPB'
          clear nPB' lPB'
          refine hKK.out _ _ hO2 (fun _ => ?_)
          clear hKK KK hO hO2 zPU tPU
          generalize (X5.alloc (Obj.cells #[Value.int IntKind.i8 0, Value.int IntKind.i64 0, Value.int IntKind.i8 0, Value.int IntKind.i64 0] 26)) = Y6 at *
          generalize X5.heap.size = gPU at *
          (try simp only [Act.put, List.setIfInBounds_toArray, List.set_cons_zero, List.set_cons_succ])
          refine wpAnyG_ready (rs := [8]) (by kernel_rfl) (by simp) ?_
          intro X8 hO hT
          have nPA' := nPA.below lPA hT
          have lPA' := Nat.lt_of_lt_of_le lPA hT.size
          clear nPA lPA
          have nPA := nPA'
          have lPA := lPA'
          clear nPA' lPA'
          have nPB' := nPB.below lPB hT
          have lPB' := Nat.lt_of_lt_of_le lPB hT.size
          clear nPB lPB
          have nPB := nPB'
          have lPB := lPB'
          clear nPB' lPB'
          have nPU' := nPU.below lPU hT
          have lPU' := Nat.lt_of_lt_of_le lPU hT.size
          clear nPU lPU
          have nPU := nPU'
          have lPU := lPU'
          clear nPU' lPU'
          clear hT
          refine AllReadyG.cons (o := ?oit8s8) ?hot8s8 ?hKt8s8 AllReadyG.nil
          case hot8s8 => (simp only [List.getElem?_toArray, List.getElem?_cons_succ, List.getElem?_cons_zero]; rfl)
          intro KK hKK
          obtain ⟨u0, u1, u2, u3⟩ := nPA.quad
          have y0 := nPA.frozen 0
          have y1 := nPA.frozen 1
          have y2 := nPA.frozen 2
          have y3 := nPA.frozen 3
          go_simp
          have hO2 : Ok V2 (set4 X8 gPA 0 1 0 3) := hO.set4 bPA 0 1 0 3
          have nPA' := nPA.store 0 1 0 3
          have lPA' : gPA < (set4 X8 gPA 0 1 0 3).heap.size := by rw [size_set4]; exact lPA
          have nPB' : BkU (set4 X8 gPA 0 1 0 3) gPB _ _ _ _ := (heap_set4_ne dPBPA 0 1 0 3).trans nPB
          have lPB' : gPB < (set4 X8 gPA 0 1 0 3).heap.size := by rw [size_set4]; exact lPB
          have nPU' : BkU (set4 X8 gPA 0 1 0 3) gPU _ _ _ _ := (heap_set4_ne dPUPA 0 1 0 3).trans nPU
          have lPU' : gPU < (set4 X8 gPA 0 1 0 3).heap.size := by rw [size_set4]; exact lPU
          change KK _ (set4 X8 gPA 0 1 0 3)
          refine hKK.out _ _ hO2 (fun _ => ?_)
          clear hKK KK hO u0 u1 u2 u3 y0 y1 y2 y3 nPA lPA nPB lPB nPU lPU
          generalize set4 X8 gPA 0 1 0 3 = Z8 at *
          have nPA := nPA'
          have lPA := lPA'
          clear nPA' lPA'
          have nPB := nPB'
          have lPB := lPB'
          clear nPB' lPB'
          have nPU := nPU'
          have lPU := lPU'
          clear nPU' lPU'
          clear hO2
          (try simp only [Act.put, List.setIfInBounds_toArray, List.set_cons_zero, List.set_cons_succ])
          refine wpAnyG_ready (rs := [9]) (by kernel_rfl) (by simp) ?_
          intro X9 hO hT
          have nPA' := nPA.below lPA hT
          have lPA' := Nat.lt_of_lt_of_le lPA hT.size
          clear nPA lPA
          have nPA := nPA'
          have lPA := lPA'
          clear nPA' lPA'
          have nPB' := nPB.below lPB hT
          have lPB' := Nat.lt_of_lt_of_le lPB hT.size
          clear nPB lPB
          have nPB := nPB'
          have lPB := lPB'
          clear nPB' lPB'
          have nPU' := nPU.below lPU hT
          have lPU' := Nat.lt_of_lt_of_le lPU hT.size
          clear nPU lPU
          have nPU := nPU'
          have lPU := lPU'
          clear nPU' lPU'
          clear hT
          refine AllReadyG.cons (o := ?oit9s9) ?hot9s9 ?hKt9s9 AllReadyG.nil
          case hot9s9 => (simp only [List.getElem?_toArray, List.getElem?_cons_succ, List.getElem?_cons_zero]; rfl)
          intro KK hKK
          obtain ⟨u0, u1, u2, u3⟩ := nPB.quad
          have y0 := nPB.frozen 0
          have y1 := nPB.frozen 1
          have y2 := nPB.frozen 2
          have y3 := nPB.frozen 3
          go_simp
          have hO2 : Ok V2 (set4 X9 gPB 0 4 0 5) := hO.set4 bPB 0 4 0 5
          have nPA' : BkU (set4 X9 gPB 0 4 0 5) gPA _ _ _ _ := (heap_set4_ne dPAPB 0 4 0 5).trans nPA
          have lPA' : gPA < (set4 X9 gPB 0 4 0 5).heap.size := by rw [size_set4]; exact lPA
          have nPB' := nPB.store 0 4 0 5
          have lPB' : gPB < (set4 X9 gPB 0 4 0 5).heap.size := by rw [size_set4]; exact lPB
          have nPU' : BkU (set4 X9 gPB 0 4 0 5) gPU _ _ _ _ := (heap_set4_ne dPUPB 0 4 0 5).trans nPU
          have lPU' : gPU < (set4 X9 gPB 0 4 0 5).heap.size := by rw [size_set4]; exact lPU
          change KK _ (set4 X9 gPB 0 4 0 5)
          refine hKK.out _ _ hO2 (fun _ => ?_)
          clear hKK KK hO u0 u1 u2 u3 y0 y1 y2 y3 nPA lPA nPB lPB nPU lPU
          generalize set4 X9 gPB 0 4 0 5 = Z9 at *
          have nPA := nPA'
          have lPA := lPA'
          clear nPA' lPA'
          have nPB := nPB'
          have lPB := lPB'
          clear nPB' lPB'
          have nPU := nPU'
          have lPU := lPU'
          clear nPU' lPU'
          clear hO2
          (try simp only [Act.put, List.setIfInBounds_toArray, List.set_cons_zero, List.set_cons_succ])
          refine wpAnyG_ready (rs := [10]) (by kernel_rfl) (by simp) ?_
          intro X10 hO hT
          have nPA' := nPA.below lPA hT
          have lPA' := Nat.lt_of_lt_of_le lPA hT.size
          clear nPA lPA
          have nPA := nPA'
          have lPA := lPA'
          clear nPA' lPA'
          have nPB' := nPB.below lPB hT
          have lPB' := Nat.lt_of_lt_of_le lPB hT.size
          clear nPB lPB
          have nPB := nPB'
          have lPB := lPB'
          clear nPB' lPB'
          have nPU' := nPU.below lPU hT
          have lPU' := Nat.lt_of_lt_of_le lPU hT.size
          clear nPU lPU
          have nPU := nPU'
          have lPU := lPU'
          clear nPU' lPU'
          clear hT
          refine AllReadyG.cons (o := ?oit10s10) ?hot10s10 ?hKt10s10 AllReadyG.nil
          case hot10s10 => (simp only [List.getElem?_toArray, List.getElem?_cons_succ, List.getElem?_cons_zero]; rfl)
          intro KK hKK
          obtain ⟨u0, u1, u2, u3⟩ := nPU.quad
          have y0 := nPU.frozen 0
          have y1 := nPU.frozen 1
          have y2 := nPU.frozen 2
          have y3 := nPU.frozen 3
          go_simp
          have hO2 : Ok V2 (set4 X10 gPU (-1) 0 0 3) := hO.set4 bPU (-1) 0 0 3
          have nPA' : BkU (set4 X10 gPU (-1) 0 0 3) gPA _ _ _ _ := (heap_set4_ne dPAPU (-1) 0 0 3).trans nPA
          have lPA' : gPA < (set4 X10 gPU (-1) 0 0 3).heap.size := by rw [size_set4]; exact lPA
          have nPB' : BkU (set4 X10 gPU (-1) 0 0 3) gPB _ _ _ _ := (heap_set4_ne dPBPU (-1) 0 0 3).trans nPB
          have lPB' : gPB < (set4 X10 gPU (-1) 0 0 3).heap.size := by rw [size_set4]; exact lPB
          have nPU' := nPU.store (-1) 0 0 3
          have lPU' : gPU < (set4 X10 gPU (-1) 0 0 3).heap.size := by rw [size_set4]; exact lPU
          change KK _ (set4 X10 gPU (-1) 0 0 3)
          refine hKK.out _ _ hO2 (fun _ => ?_)
          clear hKK KK hO u0 u1 u2 u3 y0 y1 y2 y3 nPA lPA nPB lPB nPU lPU
          generalize set4 X10 gPU (-1) 0 0 3 = Z10 at *
          have nPA := nPA'
          have lPA := lPA'
          clear nPA' lPA'
          have nPB := nPB'
          have lPB := lPB'
          clear nPB' lPB'
          have nPU := nPU'
          have lPU := lPU'
          clear nPU' lPU'
          clear hO2
          (try simp only [Act.put, List.setIfInBounds_toArray, List.set_cons_zero, List.set_cons_succ])
          refine wpAnyG_done (by kernel_rfl) ?_ _
          intro X hO hT
          have nPA' := nPA.below lPA hT
          have lPA' := Nat.lt_of_lt_of_le lPA hT.size
          clear nPA lPA
          have nPA := nPA'
          have lPA := lPA'
          clear nPA' lPA'
          have nPB' := nPB.below lPB hT
          have lPB' := Nat.lt_of_lt_of_le lPB hT.size
          clear nPB lPB
          have nPB := nPB'
          have lPB := lPB'
          clear nPB' lPB'
          have nPU' := nPU.below lPU hT
          have lPU' := Nat.lt_of_lt_of_le lPU hT.size
          clear nPU lPU
          have nPU := nPU'
          have lPU := lPU'
          clear nPU' lPU'
          go_wp2_with fail
          go_meet
          exact ⟨gPA, gPB, gPU, rfl, rfl, rfl, ⟨nPA, lPA, Nat.le_trans oo.2.size bPA⟩, ⟨nPB, lPB, Nat.le_trans oo.2.size bPB⟩, ⟨nPU, lPU, Nat.le_trans oo.2.size bPU⟩, ⟨dPAPB, dPAPU, dPBPU⟩, hO⟩
      case hKt3n7 =>
        intro KK hKK
        go_simp
        obtain ⟨nPU, zPU, tPU⟩ := run_new X3 0 0 0 0 _ rfl
        have hO2 := hO.step tPU
        have lPU : X3.heap.size < (X3.alloc (Obj.cells #[Value.int IntKind.i8 0, Value.int IntKind.i64 0, Value.int IntKind.i8 0, Value.int IntKind.i64 0] 26)).heap.size := by omega
        have bPU : V2.heap.size ≤ X3.heap.size := hO.2.size
        have dPAPU : gPA ≠ X3.heap.size := Nat.ne_of_lt lPA
        have dPUPA := dPAPU.symm
        have nPA' := nPA.below lPA tPU
        have lPA' := Nat.lt_of_lt_of_le lPA tPU.size
        clear nPA lPA
        have nPA := nPA'
        have lPA := lPA'
        clear nPA' lPA'
        refine hKK.out _ _ hO2 (fun _ => ?_)
        clear hKK KK hO hO2 zPU tPU
        generalize (X3.alloc (Obj.cells #[Value.int IntKind.i8 0, Value.int IntKind.i64 0, Value.int IntKind.i8 0, Value.int IntKind.i64 0] 26)) = Y11 at *
        generalize X3.heap.size = gPU at *
        (try simp only [Act.put, List.setIfInBounds_toArray, List.set_cons_zero, List.set_cons_succ])
        refine wpAnyG_ready (rs := [6]) (by kernel_rfl) (by simp) ?_
        intro X12 hO hT
        have nPA' := nPA.below lPA hT
        have lPA' := Nat.lt_of_lt_of_le lPA hT.size
        clear nPA lPA
        have nPA := nPA'
        have lPA := lPA'
        clear nPA' lPA'
        have nPU' := nPU.below lPU hT
        have lPU' := Nat.lt_of_lt_of_le lPU hT.size
        clear nPU lPU
        have nPU := nPU'
        have lPU := lPU'
        clear nPU' lPU'
        clear hT
        refine AllReadyG.cons (o := ?oit12n6) ?hot12n6 ?hKt12n6 AllReadyG.nil
        case hot12n6 => (simp only [List.getElem?_toArray, List.getElem?_cons_succ, List.getElem?_cons_zero]; rfl)
        case hKt12n6 =>
          intro KK hKK
          go_simp
          obtain ⟨nPB, zPB, tPB⟩ := run_new X12 0 0 0 0 _ rfl
          have hO2 := hO.step tPB
          have lPB : X12.heap.size < (X12.alloc (Obj.cells #[Value.int IntKind.i8 0, Value.int IntKind.i64 0, Value.int IntKind.i8 0, Value.int IntKind.i64 0] 26)).heap.size := by omega
          have bPB : V2.heap.size ≤ X12.heap.size := hO.2.size
          have dPAPB : gPA ≠ X12.heap.size := Nat.ne_of_lt lPA
          have dPBPA := dPAPB.symm
          have nPA' := nPA.below lPA tPB
          have lPA' := Nat.lt_of_lt_of_le lPA tPB.size
          clear nPA lPA
          have nPA := nPA'
          have lPA := lPA'
          clear nPA' lPA'
          have dPUPB : gPU ≠ X12.heap.size := Nat.ne_of_lt lPU
          have dPBPU := dPUPB.symm
          have nPU' := nPU.below lPU tPB
          have lPU' := Nat.lt_of_lt_of_le lPU tPB.size
          clear nPU lPU
          have nPU := nPU'
          have lPU := lPU'
          clear nPU' lPU'
          refine hKK.out _ _ hO2 (fun _ => ?_)
          clear hKK KK hO hO2 zPB tPB
          generalize (X12.alloc (Obj.cells #[Value.int IntKind.i8 0, Value.int IntKind.i64 0, Value.int IntKind.i8 0, Value.int IntKind.i64 0] 26)) = Y13 at *
          generalize X12.heap.size = gPB at *
          (try simp only [Act.put, List.setIfInBounds_toArray, List.set_cons_zero, List.set_cons_succ])
          refine wpAnyG_ready (rs := [8]) (by kernel_rfl) (by simp) ?_
          intro X15 hO hT
          have nPA' := nPA.below lPA hT
          have lPA' := Nat.lt_of_lt_of_le lPA hT.size
          clear nPA lPA
          have nPA := nPA'
          have lPA := lPA'
          clear nPA' lPA'
          have nPU' := nPU.below lPU hT
          have lPU' := Nat.lt_of_lt_of_le lPU hT.size
          clear nPU lPU
          have nPU := nPU'
          have lPU := lPU'
          clear nPU' lPU'
          have nPB' := nPB.below lPB hT
          have lPB' := Nat.lt_of_lt_of_le lPB hT.size
          clear nPB lPB
          have nPB := nPB'
          have lPB := lPB'
          clear nPB' lPB'
          clear hT
          refine AllReadyG.cons (o := ?oit15s8) ?hot15s8 ?hKt15s8 AllReadyG.nil
          case hot15s8 => (simp only [List.getElem?_toArray, List.getElem?_cons_succ, List.getElem?_cons_zero]; rfl)
          intro KK hKK
          obtain ⟨u0, u1, u2, u3⟩ := nPA.quad
          have y0 := nPA.frozen 0
          have y1 := nPA.frozen 1
          have y2 := nPA.frozen 2
          have y3 := nPA.frozen 3
          go_simp
          have hO2 : Ok V2 (set4 X15 gPA 0 1 0 3) := hO.set4 bPA 0 1 0 3
          have nPA' := nPA.store 0 1 0 3
          have lPA' : gPA < (set4 X15 gPA 0 1 0 3).heap.size := by rw [size_set4]; exact lPA
          have nPU' : BkU (set4 X15 gPA 0 1 0 3) gPU _ _ _ _ := (heap_set4_ne dPUPA 0 1 0 3).trans nPU
          have lPU' : gPU < (set4 X15 gPA 0 1 0 3).heap.size := by rw [size_set4]; exact lPU
          have nPB' : BkU (set4 X15 gPA 0 1 0 3) gPB _ _ _ _ := (heap_set4_ne dPBPA 0 1 0 3).trans nPB
          have lPB' : gPB < (set4 X15 gPA 0 1 0 3).heap.size := by rw [size_set4]; exact lPB
          change KK _ (set4 X15 gPA 0 1 0 3)
          refine hKK.out _ _ hO2 (fun _ => ?_)
          clear hKK KK hO u0 u1 u2 u3 y0 y1 y2 y3 nPA lPA nPU lPU nPB lPB
          generalize set4 X15 gPA 0 1 0 3 = Z15 at *
          have nPA := nPA'
          have lPA := lPA'
          clear nPA' lPA'
          have nPU := nPU'
          have lPU := lPU'
          clear nPU' lPU'
          have nPB := nPB'
          have lPB := lPB'
          clear nPB' lPB'
          clear hO2
          (try simp only [Act.put, List.setIfInBounds_toArray, List.set_cons_zero, List.set_cons_succ])
          refine wpAnyG_ready (rs := [9]) (by kernel_rfl) (by simp) ?_
          intro X16 hO hT
          have nPA' := nPA.below lPA hT
          have lPA' := Nat.lt_of_lt_of_le lPA hT.size
          clear nPA lPA
          have nPA := nPA'
          have lPA := lPA'
          clear nPA' lPA'
          have nPU' := nPU.below lPU hT
          have lPU' := Nat.lt_of_lt_of_le lPU hT.size
          clear nPU lPU
          have nPU := nPU'
          have lPU := lPU'
          clear nPU' lPU'
          have nPB' := nPB.below lPB hT
          have lPB' := Nat.lt_of_lt_of_le lPB hT.size
          clear nPB lPB
          have nPB := nPB'
          have lPB := lPB'
          clear nPB' lPB'
          clear hT
          refine AllReadyG.cons (o := ?oit16s9) ?hot16s9 ?hKt16s9 AllReadyG.nil
          case hot16s9 => (simp only [List.getElem?_toArray, List.getElem?_cons_succ, List.getElem?_cons_zero]; rfl)
          intro KK hKK
          obtain ⟨u0, u1, u2, u3⟩ := nPB.quad
          have y0 := nPB.frozen 0
          have y1 := nPB.frozen 1
          have y2 := nPB.frozen 2
          have y3 := nPB.frozen 3
          go_simp
          have hO2 : Ok V2 (set4 X16 gPB 0 4 0 5) := hO.set4 bPB 0 4 0 5
          have nPA' : BkU (set4 X16 gPB 0 4 0 5) gPA _ _ _ _ := (heap_set4_ne dPAPB 0 4 0 5).trans nPA
          have lPA' : gPA < (set4 X16 gPB 0 4 0 5).heap.size := by rw [size_set4]; exact lPA
          have nPU' : BkU (set4 X16 gPB 0 4 0 5) gPU _ _ _ _ := (heap_set4_ne dPUPB 0 4 0 5).trans nPU
          have lPU' : gPU < (set4 X16 gPB 0 4 0 5).heap.size := by rw [size_set4]; exact lPU
          have nPB' := nPB.store 0 4 0 5
          have lPB' : gPB < (set4 X16 gPB 0 4 0 5).heap.size := by rw [size_set4]; exact lPB
          change KK _ (set4 X16 gPB 0 4 0 5)
          refine hKK.out _ _ hO2 (fun _ => ?_)
          clear hKK KK hO u0 u1 u2 u3 y0 y1 y2 y3 nPA lPA nPU lPU nPB lPB
          generalize set4 X16 gPB 0 4 0 5 = Z16 at *
          have nPA := nPA'
          have lPA := lPA'
          clear nPA' lPA'
          have nPU := nPU'
          have lPU := lPU'
          clear nPU' lPU'
          have nPB := nPB'
          have lPB := lPB'
          clear nPB' lPB'
          clear hO2
          (try simp only [Act.put, List.setIfInBounds_toArray, List.set_cons_zero, List.set_cons_succ])
          refine wpAnyG_ready (rs := [10]) (by kernel_rfl) (by simp) ?_
          intro X17 hO hT
          have nPA' := nPA.below lPA hT
          have lPA' := Nat.lt_of_lt_of_le lPA hT.size
          clear nPA lPA
          have nPA := nPA'
          have lPA := lPA'
          clear nPA' lPA'
          have nPU' := nPU.below lPU hT
          have lPU' := Nat.lt_of_lt_of_le lPU hT.size
          clear nPU lPU
          have nPU := nPU'
          have lPU := lPU'
          clear nPU' lPU'
          have nPB' := nPB.below lPB hT
          have lPB' := Nat.lt_of_lt_of_le lPB hT.size
          clear nPB lPB
          have nPB := nPB'
          have lPB := lPB'
          clear nPB' lPB'
          clear hT
          refine AllReadyG.cons (o := ?oit17s10) ?hot17s10 ?hKt17s10 AllReadyG.nil
          case hot17s10 => (simp only [List.getElem?_toArray, List.getElem?_cons_succ, List.getElem?_cons_zero]; rfl)
          intro KK hKK
          obtain ⟨u0, u1, u2, u3⟩ := nPU.quad
          have y0 := nPU.frozen 0
          have y1 := nPU.frozen 1
          have y2 := nPU.frozen 2
          have y3 := nPU.frozen 3
          go_simp
          have hO2 : Ok V2 (set4 X17 gPU (-1) 0 0 3) := hO.set4 bPU (-1) 0 0 3
          have nPA' : BkU (set4 X17 gPU (-1) 0 0 3) gPA _ _ _ _ := (heap_set4_ne dPAPU (-1) 0 0 3).trans nPA
          have lPA' : gPA < (set4 X17 gPU (-1) 0 0 3).heap.size := by rw [size_set4]; exact lPA
          have nPU' := nPU.store (-1) 0 0 3
          have lPU' : gPU < (set4 X17 gPU (-1) 0 0 3).heap.size := by rw [size_set4]; exact lPU
          have nPB' : BkU (set4 X17 gPU (-1) 0 0 3) gPB _ _ _ _ := (heap_set4_ne dPBPU (-1) 0 0 3).trans nPB
          have lPB' : gPB < (set4 X17 gPU (-1) 0 0 3).heap.size := by rw [size_set4]; exact lPB
          change KK _ (set4 X17 gPU (-1) 0 0 3)
          refine hKK.out _ _ hO2 (fun _ => ?_)
          clear hKK KK hO u0 u1 u2 u3 y0 y1 y2 y3 nPA lPA nPU lPU nPB lPB
          generalize set4 X17 gPU (-1) 0 0 3 = Z17 at *
          have nPA := nPA'
          have lPA := lPA'
          clear nPA' lPA'
          have nPU := nPU'
          have lPU := lPU'
          clear nPU' lPU'
          have nPB := nPB'
          have lPB := lPB'
          clear nPB' lPB'
          clear hO2
          (try simp only [Act.put, List.setIfInBounds_toArray, List.set_cons_zero, List.set_cons_succ])
          refine wpAnyG_done (by kernel_rfl) ?_ _
          intro X hO hT
          have nPA' := nPA.below lPA hT
          have lPA' := Nat.lt_of_lt_of_le lPA hT.size
          clear nPA lPA
          have nPA := nPA'
          have lPA := lPA'
          clear nPA' lPA'
          have nPU' := nPU.below lPU hT
          have lPU' := Nat.lt_of_lt_of_le lPU hT.size
          clear nPU lPU
          have nPU := nPU'
          have lPU := lPU'
          clear nPU' lPU'
          have nPB' := nPB.below lPB hT
          have lPB' := Nat.lt_of_lt_of_le lPB hT.size
          clear nPB lPB
          have nPB := nPB'
          have lPB := lPB'
          clear nPB' lPB'
          go_wp2_with fail
          go_meet
          exact ⟨gPA, gPB, gPU, rfl, rfl, rfl, ⟨nPA, lPA, Nat.le_trans oo.2.size bPA⟩, ⟨nPB, lPB, Nat.le_trans oo.2.size bPB⟩, ⟨nPU, lPU, Nat.le_trans oo.2.size bPU⟩, ⟨dPAPB, dPAPU, dPBPU⟩, hO⟩
    case hKt1n6 =>
      intro KK hKK
      go_simp
      obtain ⟨nPB, zPB, tPB⟩ := run_new X1 0 0 0 0 _ rfl
      have hO2 := hO.step tPB
      have lPB : X1.heap.size < (X1.alloc (Obj.cells #[Value.int IntKind.i8 0, Value.int IntKind.i64 0, Value.int IntKind.i8 0, Value.int IntKind.i64 0] 26)).heap.size := by omega
      have bPB : V2.heap.size ≤ X1.heap.size := hO.2.size
      refine hKK.out _ _ hO2 (fun _ => ?_)
      clear hKK KK hO hO2 zPB tPB
      generalize (X1.alloc (Obj.cells #[Value.int IntKind.i8 0, Value.int IntKind.i64 0, Value.int IntKind.i8 0, Value.int IntKind.i64 0] 26)) = Y18 at *
      generalize X1.heap.size = gPB at *
      (try simp only [Act.put, List.setIfInBounds_toArray, List.set_cons_zero, List.set_cons_succ])
      refine wpAnyG_ready (rs := [5, 7]) (by kernel_rfl) (by simp) ?_
      intro X19 hO hT
      have nPB' := nPB.below lPB hT
      have lPB' := Nat.lt_of_lt_of_le lPB hT.size
      clear nPB lPB
      have nPB := nPB'
      have lPB := lPB'
      clear nPB' lPB'
      clear hT
      refine AllReadyG.cons (o := ?oit19n5) ?hot19n5 ?hKt19n5 (AllReadyG.cons (o := ?oit19n7) ?hot19n7 ?hKt19n7 AllReadyG.nil)
      case hot19n5 => (simp only [List.getElem?_toArray, List.getElem?_cons_succ, List.getElem?_cons_zero]; rfl)
      case hot19n7 => (simp only [List.getElem?_toArray, List.getElem?_cons_succ, List.getElem?_cons_zero]; rfl)
      case hKt19n5 =>
        intro KK hKK
        go_simp
        obtain ⟨nPA, zPA, tPA⟩ := run_new X19 0 0 0 0 _ rfl
        have hO2 := hO.step tPA
        have lPA : X19.heap.size < (X19.alloc (Obj.cells #[Value.int IntKind.i8 0, Value.int IntKind.i64 0, Value.int IntKind.i8 0, Value.int IntKind.i64 0] 26)).heap.size := by omega
        have bPA : V2.heap.size ≤ X19.heap.size := hO.2.size
        have dPBPA : gPB ≠ X19.heap.size := Nat.ne_of_lt lPB
        have dPAPB := dPBPA.symm
        have nPB' := nPB.below lPB tPA
        have lPB' := Nat.lt_of_lt_of_le lPB tPA.size
        clear nPB lPB
        have nPB := nPB'
        have lPB := lPB'
        clear nPB' lPB'
        refine hKK.out _ _ hO2 (fun _ => ?_)
        clear hKK KK hO hO2 zPA tPA
        generalize (X19.alloc (Obj.cells #[Value.int IntKind.i8 0, Value.int IntKind.i64 0, Value.int IntKind.i8 0, Value.int IntKind.i64 0] 26)) = Y20 at *
        generalize X19.heap.size = gPA at *
        (try simp only [Act.put, List.setIfInBounds_toArray, List.set_cons_zero, List.set_cons_succ])
        refine wpAnyG_ready (rs := [7]) (by kernel_rfl) (by simp) ?_
        intro X21 hO hT
        have nPB' := nPB.below lPB hT
        have lPB' := Nat.lt_of_lt_of_le lPB hT.size
        clear nPB lPB
        have nPB := nPB'
        have lPB := lPB'
        clear nPB' lPB'
        have nPA' := nPA.below lPA hT
        have lPA' := Nat.lt_of_lt_of_le lPA hT.size
        clear nPA lPA
        have nPA := nPA'
        have lPA := lPA'
        clear nPA' lPA'
        clear hT
        refine AllReadyG.cons (o := ?oit21n7) ?hot21n7 ?hKt21n7 AllReadyG.nil
        case hot21n7 => (simp only [List.getElem?_toArray, List.getElem?_cons_succ, List.getElem?_cons_zero]; rfl)
        case hKt21n7 =>
          intro KK hKK
          go_simp
          obtain ⟨nPU, zPU, tPU⟩ := run_new X21 0 0 0 0 _ rfl
          have hO2 := hO.step tPU
          have lPU : X21.heap.size < (X21.alloc (Obj.cells #[Value.int IntKind.i8 0, Value.int IntKind.i64 0, Value.int IntKind.i8 0, Value.int IntKind.i64 0] 26)).heap.size := by omega
          have bPU : V2.heap.size ≤ X21.heap.size := hO.2.size
          have dPBPU : gPB ≠ X21.heap.size := Nat.ne_of_lt lPB
          have dPUPB := dPBPU.symm
          have nPB' := nPB.below lPB tPU
          have lPB' := Nat.lt_of_lt_of_le lPB tPU.size
          clear nPB lPB
          have nPB := nPB'
          have lPB := lPB'
          clear nPB' lPB'
          have dPAPU : gPA ≠ X21.heap.size := Nat.ne_of_lt lPA
          have dPUPA := dPAPU.symm
          have nPA' := nPA.below lPA tPU
          have lPA' := Nat.lt_of_lt_of_le lPA tPU.size
          clear nPA lPA
          have nPA := nPA'
          have lPA := lPA'
          clear nPA' lPA'
          refine hKK.out _ _ hO2 (fun _ => ?_)
          clear hKK KK hO hO2 zPU tPU
          generalize (X21.alloc (Obj.cells #[Value.int IntKind.i8 0, Value.int IntKind.i64 0, Value.int IntKind.i8 0, Value.int IntKind.i64 0] 26)) = Y22 at *
          generalize X21.heap.size = gPU at *
          (try simp only [Act.put, List.setIfInBounds_toArray, List.set_cons_zero, List.set_cons_succ])
          refine wpAnyG_ready (rs := [8]) (by kernel_rfl) (by simp) ?_
          intro X24 hO hT
          have nPB' := nPB.below lPB hT
          have lPB' := Nat.lt_of_lt_of_le lPB hT.size
          clear nPB lPB
          have nPB := nPB'
          have lPB := lPB'
          clear nPB' lPB'
          have nPA' := nPA.below lPA hT
          have lPA' := Nat.lt_of_lt_of_le lPA hT.size
          clear nPA lPA
          have nPA := nPA'
          have lPA := lPA'
          clear nPA' lPA'
          have nPU' := nPU.below lPU hT
          have lPU' := Nat.lt_of_lt_of_le lPU hT.size
          clear nPU lPU
          have nPU := nPU'
          have lPU := lPU'
          clear nPU' lPU'
          clear hT
          refine AllReadyG.cons (o := ?oit24s8) ?hot24s8 ?hKt24s8 AllReadyG.nil
          case hot24s8 => (simp only [List.getElem?_toArray, List.getElem?_cons_succ, List.getElem?_cons_zero]; rfl)
          intro KK hKK
          obtain ⟨u0, u1, u2, u3⟩ := nPA.quad
          have y0 := nPA.frozen 0
          have y1 := nPA.frozen 1
          have y2 := nPA.frozen 2
          have y3 := nPA.frozen 3
          go_simp
          have hO2 : Ok V2 (set4 X24 gPA 0 1 0 3) := hO.set4 bPA 0 1 0 3
          have nPB' : BkU (set4 X24 gPA 0 1 0 3) gPB _ _ _ _ := (heap_set4_ne dPBPA 0 1 0 3).trans nPB
          have lPB' : gPB < (set4 X24 gPA 0 1 0 3).heap.size := by rw [size_set4]; exact lPB
          have nPA' := nPA.store 0 1 0 3
          have lPA' : gPA < (set4 X24 gPA 0 1 0 3).heap.size := by rw [size_set4]; exact lPA
          have nPU' : BkU (set4 X24 gPA 0 1 0 3) gPU _ _ _ _ := (heap_set4_ne dPUPA 0 1 0 3).trans nPU
          have lPU' : gPU < (set4 X24 gPA 0 1 0 3).heap.size := by rw [size_set4]; exact lPU
          change KK _ (set4 X24 gPA 0 1 0 3)
          refine hKK.out _ _ hO2 (fun _ => ?_)
          clear hKK KK hO u0 u1 u2 u3 y0 y1 y2 y3 nPB lPB nPA lPA nPU lPU
          generalize set4 X24 gPA 0 1 0 3 = Z24 at *
          have nPB := nPB'
          have lPB := lPB'
          clear nPB' lPB'
          have nPA := nPA'
          have lPA := lPA'
          clear nPA' lPA'
          have nPU := nPU'
          have lPU := lPU'
          clear nPU' lPU'
          clear hO2
          (try simp only [Act.put, List.setIfInBounds_toArray, List.set_cons_zero, List.set_cons_succ])
          refine wpAnyG_ready (rs := [9]) (by kernel_rfl) (by simp) ?_
          intro X25 hO hT
          have nPB' := nPB.below lPB hT
          have lPB' := Nat.lt_of_lt_of_le lPB hT.size
          clear nPB lPB
          have nPB := nPB'
          have lPB := lPB'
          clear nPB' lPB'
          have nPA' := nPA.below lPA hT
          have lPA' := Nat.lt_of_lt_of_le lPA hT.size
          clear nPA lPA
          have nPA := nPA'
          have lPA := lPA'
          clear nPA' lPA'
          have nPU' := nPU.below lPU hT
          have lPU' := Nat.lt_of_lt_of_le lPU hT.size
          clear nPU lPU
          have nPU := nPU'
          have lPU := lPU'
          clear nPU' lPU'
          clear hT
          refine AllReadyG.cons (o := ?oit25s9) ?hot25s9 ?hKt25s9 AllReadyG.nil
          case hot25s9 => (simp only [List.getElem?_toArray, List.getElem?_cons_succ, List.getElem?_cons_zero]; rfl)
          intro KK hKK
          obtain ⟨u0, u1, u2, u3⟩ := nPB.quad
          have y0 := nPB.frozen 0
          have y1 := nPB.frozen 1
          have y2 := nPB.frozen 2
          have y3 := nPB.frozen 3
          go_simp
          have hO2 : Ok V2 (set4 X25 gPB 0 4 0 5) := hO.set4 bPB 0 4 0 5
          have nPB' := nPB.store 0 4 0 5
          have lPB' : gPB < (set4 X25 gPB 0 4 0 5).heap.size := by rw [size_set4]; exact lPB
          have nPA' : BkU (set4 X25 gPB 0 4 0 5) gPA _ _ _ _ := (heap_set4_ne dPAPB 0 4 0 5).trans nPA
          have lPA' : gPA < (set4 X25 gPB 0 4 0 5).heap.size := by rw [size_set4]; exact lPA
          have nPU' : BkU (set4 X25 gPB 0 4 0 5) gPU _ _ _ _ := (heap_set4_ne dPUPB 0 4 0 5).trans nPU
          have lPU' : gPU < (set4 X25 gPB 0 4 0 5).heap.size := by rw [size_set4]; exact lPU
          change KK _ (set4 X25 gPB 0 4 0 5)
          refine hKK.out _ _ hO2 (fun _ => ?_)
          clear hKK KK hO u0 u1 u2 u3 y0 y1 y2 y3 nPB lPB nPA lPA nPU lPU
          generalize set4 X25 gPB 0 4 0 5 = Z25 at *
          have nPB := nPB'
          have lPB := lPB'
          clear nPB' lPB'
          have nPA := nPA'
          have lPA := lPA'
          clear nPA' lPA'
          have nPU := nPU'
          have lPU := lPU'
          clear nPU' lPU'
          clear hO2
          (try simp only [Act.put, List.setIfInBounds_toArray, List.set_cons_zero, List.set_cons_succ])
          refine wpAnyG_ready (rs := [10]) (by kernel_rfl) (by simp) ?_
          intro X26 hO hT
          have nPB' := nPB.below lPB hT
          have lPB' := Nat.lt_of_lt_of_le lPB hT.size
          clear nPB lPB
          have nPB := nPB'
          have lPB := lPB'
          clear nPB' lPB'
          have nPA' := nPA.below lPA hT
          have lPA' := Nat.lt_of_lt_of_le lPA hT.size
          clear nPA lPA
          have nPA := nPA'
          have lPA := lPA'
          clear nPA' lPA'
          have nPU' := nPU.below lPU hT
          have lPU' := Nat.lt_of_lt_of_le lPU hT.size
          clear nPU lPU
          have nPU := nPU'
          have lPU := lPU'
          clear nPU' lPU'
          clear hT
          refine AllReadyG.cons (o := ?oit26s10) ?hot26s10 ?hKt26s10 AllReadyG.nil
          case hot26s10 => (simp only [List.getElem?_toArray, List.getElem?_cons_succ, List.getElem?_cons_zero]; rfl)
          intro KK hKK
          obtain ⟨u0, u1, u2, u3⟩ := nPU.quad
          have y0 := nPU.frozen 0
          have y1 := nPU.frozen 1
          have y2 := nPU.frozen 2
          have y3 := nPU.frozen 3
          go_simp
          have hO2 : Ok V2 (set4 X26 gPU (-1) 0 0 3) := hO.set4 bPU (-1) 0 0 3
          have nPB' : BkU (set4 X26 gPU (-1) 0 0 3) gPB _ _ _ _ := (heap_set4_ne dPBPU (-1) 0 0 3).trans nPB
          have lPB' : gPB < (set4 X26 gPU (-1) 0 0 3).heap.size := by rw [size_set4]; exact lPB
          have nPA' : BkU (set4 X26 gPU (-1) 0 0 3) gPA _ _ _ _ := (heap_set4_ne dPAPU (-1) 0 0 3).trans nPA
          have lPA' : gPA < (set4 X26 gPU (-1) 0 0 3).heap.size := by rw [size_set4]; exact lPA
          have nPU' := nPU.store (-1) 0 0 3
          have lPU' : gPU < (set4 X26 gPU (-1) 0 0 3).heap.size := by rw [size_set4]; exact lPU
          change KK _ (set4 X26 gPU (-1) 0 0 3)
          refine hKK.out _ _ hO2 (fun _ => ?_)
          clear hKK KK hO u0 u1 u2 u3 y0 y1 y2 y3 nPB lPB nPA lPA nPU lPU
          generalize set4 X26 gPU (-1) 0 0 3 = Z26 at *
          have nPB := nPB'
          have lPB := lPB'
          clear nPB' lPB'
          have nPA := nPA'
          have lPA := lPA'
          clear nPA' lPA'
          have nPU := nPU'
          have lPU := lPU'
          clear nPU' lPU'
          clear hO2
          (try simp only [Act.put, List.setIfInBounds_toArray, List.set_cons_zero, List.set_cons_succ])
          refine wpAnyG_done (by kernel_rfl) ?_ _
          intro X hO hT
          have nPB' := nPB.below lPB hT
          have lPB' := Nat.lt_of_lt_of_le lPB hT.size
          clear nPB lPB
          have nPB := nPB'
          have lPB := lPB'
          clear nPB' lPB'
          have nPA' := nPA.below lPA hT
          have lPA' := Nat.lt_of_lt_of_le lPA hT.size
          clear nPA lPA
          have nPA := nPA'
          have lPA := lPA'
          clear nPA' lPA'
          have nPU' := nPU.below lPU hT
          have lPU' := Nat.lt_of_lt_of_le lPU hT.size
          clear nPU lPU
          have nPU := nPU'
          have lPU := lPU'
          clear nPU' lPU'
          go_wp2_with fail
          go_meet
          exact ⟨gPA, gPB, gPU, rfl, rfl, rfl, ⟨nPA, lPA, Nat.le_trans oo.2.size bPA⟩, ⟨nPB, lPB, Nat.le_trans oo.2.size bPB⟩, ⟨nPU, lPU, Nat.le_trans oo.2.size bPU⟩, ⟨dPAPB, dPAPU, dPBPU⟩, hO⟩
      case hKt19n7 =>
        intro KK hKK
        go_simp
        obtain ⟨nPU, zPU, tPU⟩ := run_new X19 0 0 0 0 _ rfl
        have hO2 := hO.step tPU
        have lPU : X19.heap.size < (X19.alloc (Obj.cells #[Value.int IntKind.i8 0, Value.int IntKind.i64 0, Value.int IntKind.i8 0, Value.int IntKind.i64 0] 26)).heap.size := by omega
        have bPU : V2.heap.size ≤ X19.heap.size := hO.2.size
        have dPBPU : gPB ≠ X19.heap.size := Nat.ne_of_lt lPB
        have dPUPB := dPBPU.symm
        have nPB' := nPB.below lPB tPU
        have lPB' := Nat.lt_of_lt_of_le lPB tPU.size
        clear nPB lPB
        have nPB := nPB'
        have lPB := lPB'
        clear nPB' lPB'
        refine hKK.out _ _ hO2 (fun _ => ?_)
        clear hKK KK hO hO2 zPU tPU
        generalize (X19.alloc (Obj.cells #[Value.int IntKind.i8 0, Value.int IntKind.i64 0, Value.int IntKind.i8 0, Value.int IntKind.i64 0] 26)) = Y27 at *
        generalize X19.heap.size = gPU at *
        (try simp only [Act.put, List.setIfInBounds_toArray, List.set_cons_zero, List.set_cons_succ])
        refine wpAnyG_ready (rs := [5]) (by kernel_rfl) (by simp) ?_
        intro X28 hO hT
        have nPB' := nPB.below lPB hT
        have lPB' := Nat.lt_of_lt_of_le lPB hT.size
        clear nPB lPB
        have nPB := nPB'
        have lPB := lPB'
        clear nPB' lPB'
        have nPU' := nPU.below lPU hT
        have lPU' := Nat.lt_of_lt_of_le lPU hT.size
        clear nPU lPU
        have nPU := nPU'
        have lPU := lPU'
        clear nPU' lPU'
        clear hT
        refine AllReadyG.cons (o := ?oit28n5) ?hot28n5 ?hKt28n5 AllReadyG.nil
        case hot28n5 => (simp only [List.getElem?_toArray, List.getElem?_cons_succ, List.getElem?_cons_zero]; rfl)
        case hKt28n5 =>
          intro KK hKK
          go_simp
          obtain ⟨nPA, zPA, tPA⟩ := run_new X28 0 0 0 0 _ rfl
          have hO2 := hO.step tPA
          have lPA : X28.heap.size < (X28.alloc (Obj.cells #[Value.int IntKind.i8 0, Value.int IntKind.i64 0, Value.int IntKind.i8 0, Value.int IntKind.i64 0] 26)).heap.size := by omega
          have bPA : V2.heap.size ≤ X28.heap.size := hO.2.size
          have dPBPA : gPB ≠ X28.heap.size := Nat.ne_of_lt lPB
          have dPAPB := dPBPA.symm
          have nPB' := nPB.below lPB tPA
          have lPB' := Nat.lt_of_lt_of_le lPB tPA.size
          clear nPB lPB
          have nPB := nPB'
          have lPB := lPB'
          clear nPB' lPB'
          have dPUPA : gPU ≠ X28.heap.size := Nat.ne_of_lt lPU
          have dPAPU := dPUPA.symm
          have nPU' := nPU.below lPU tPA
          have lPU' := Nat.lt_of_lt_of_le lPU tPA.size
          clear nPU lPU
          have nPU := nPU'
          have lPU := lPU'
          clear nPU' lPU'
          refine hKK.out _ _ hO2 (fun _ => ?_)
          clear hKK KK hO hO2 zPA tPA
          generalize (X28.alloc (Obj.cells #[Value.int IntKind.i8 0, Value.int IntKind.i64 0, Value.int IntKind.i8 0, Value.int IntKind.i64 0] 26)) = Y29 at *
          generalize X28.heap.size = gPA at *
          (try simp only [Act.put, List.setIfInBounds_toArray, List.set_cons_zero, List.set_cons_succ])
          refine wpAnyG_ready (rs := [8]) (by kernel_rfl) (by simp) ?_
          intro X31 hO hT
          have nPB' := nPB.below lPB hT
          have lPB' := Nat.lt_of_lt_of_le lPB hT.size
          clear nPB lPB
          have nPB := nPB'
          have lPB := lPB'
          clear nPB' lPB'
          have nPU' := nPU.below lPU hT
          have lPU' := Nat.lt_of_lt_of_le lPU hT.size
          clear nPU lPU
          have nPU := nPU'
          have lPU := lPU'
          clear nPU' lPU'
          have nPA' := nPA.below lPA hT
          have lPA' := Nat.lt_of_lt_of_le lPA hT.size
          clear nPA lPA
          have nPA := nPA'
          have lPA := lPA'
          clear nPA' lPA'
          clear hT
          refine AllReadyG.cons (o := ?oit31s8) ?hot31s8 ?hKt31s8 AllReadyG.nil
          case hot31s8 => (simp only [List.getElem?_toArray, List.getElem?_cons_succ, List.getElem?_cons_zero]; rfl)
          intro KK hKK
          obtain ⟨u0, u1, u2, u3⟩ := nPA.quad
          have y0 := nPA.frozen 0
          have y1 := nPA.frozen 1
          have y2 := nPA.frozen 2
          have y3 := nPA.frozen 3
          go_simp
          have hO2 : Ok V2 (set4 X31 gPA 0 1 0 3) := hO.set4 bPA 0 1 0 3
          have nPB' : BkU (set4 X31 gPA 0 1 0 3) gPB _ _ _ _ := (heap_set4_ne dPBPA 0 1 0 3).trans nPB
          have lPB' : gPB < (set4 X31 gPA 0 1 0 3).heap.size := by rw [size_set4]; exact lPB
          have nPU' : BkU (set4 X31 gPA 0 1 0 3) gPU _ _ _ _ := (heap_set4_ne dPUPA 0 1 0 3).trans nPU
          have lPU' : gPU < (set4 X31 gPA 0 1 0 3).heap.size := by rw [size_set4]; exact lPU
          have nPA' := nPA.store 0 1 0 3
          have lPA' : gPA < (set4 X31 gPA 0 1 0 3).heap.size := by rw [size_set4]; exact lPA
          change KK _ (set4 X31 gPA 0 1 0 3)
          refine hKK.out _ _ hO2 (fun _ => ?_)
          clear hKK KK hO u0 u1 u2 u3 y0 y1 y2 y3 nPB lPB nPU lPU nPA lPA
          generalize set4 X31 gPA 0 1 0 3 = Z31 at *
          have nPB := nPB'
          have lPB := lPB'
          clear nPB' lPB'
          have nPU := nPU'
          have lPU := lPU'
          clear nPU' lPU'
          have nPA := nPA'
          have lPA := lPA'
          clear nPA' lPA'
          clear hO2
          (try simp only [Act.put, List.setIfInBounds_toArray, List.set_cons_zero, List.set_cons_succ])
          refine wpAnyG_ready (rs := [9]) (by kernel_rfl) (by simp) ?_
          intro X32 hO hT
          have nPB' := nPB.below lPB hT
          have lPB' := Nat.lt_of_lt_of_le lPB hT.size
          clear nPB lPB
          have nPB := nPB'
          have lPB := lPB'
          clear nPB' lPB'
          have nPU' := nPU.below lPU hT
          have lPU' := Nat.lt_of_lt_of_le lPU hT.size
          clear nPU lPU
          have nPU := nPU'
          have lPU := lPU'
          clear nPU' lPU'
          have nPA' := nPA.below lPA hT
          have lPA' := Nat.lt_of_lt_of_le lPA hT.size
          clear nPA lPA
          have nPA := nPA'
          have lPA := lPA'
          clear nPA' lPA'
          clear hT
          refine AllReadyG.cons (o := ?oit32s9) ?hot32s9 ?hKt32s9 AllReadyG.nil
          case hot32s9 => (simp only [List.getElem?_toArray, List.getElem?_cons_succ, List.getElem?_cons_zero]; rfl)
          intro KK hKK
          obtain ⟨u0, u1, u2, u3⟩ := nPB.quad
          have y0 := nPB.frozen 0
          have y1 := nPB.frozen 1
          have y2 := nPB.frozen 2
          have y3 := nPB.frozen 3
          go_simp
          have hO2 : Ok V2 (set4 X32 gPB 0 4 0 5) := hO.set4 bPB 0 4 0 5
          have nPB' := nPB.store 0 4 0 5
          have lPB' : gPB < (set4 X32 gPB 0 4 0 5).heap.size := by rw [size_set4]; exact lPB
          have nPU' : BkU (set4 X32 gPB 0 4 0 5) gPU _ _ _ _ := (heap_set4_ne dPUPB 0 4 0 5).trans nPU
          have lPU' : gPU < (set4 X32 gPB 0 4 0 5).heap.size := by rw [size_set4]; exact lPU
          have nPA' : BkU (set4 X32 gPB 0 4 0 5) gPA _ _ _ _ := (heap_set4_ne dPAPB 0 4 0 5).trans nPA
          have lPA' : gPA < (set4 X32 gPB 0 4 0 5).heap.size := by rw [size_set4]; exact lPA
          change KK _ (set4 X32 gPB 0 4 0 5)
          refine hKK.out _ _ hO2 (fun _ => ?_)
          clear hKK KK hO u0 u1 u2 u3 y0 y1 y2 y3 nPB lPB nPU lPU nPA lPA
          generalize set4 X32 gPB 0 4 0 5 = Z32 at *
          have nPB := nPB'
          have lPB := lPB'
          clear nPB' lPB'
          have nPU := nPU'
          have lPU := lPU'
          clear nPU' lPU'
          have nPA := nPA'
          have lPA := lPA'
          clear nPA' lPA'
          clear hO2
          (try simp only [Act.put, List.setIfInBounds_toArray, List.set_cons_zero, List.set_cons_succ])
          refine wpAnyG_ready (rs := [10]) (by kernel_rfl) (by simp) ?_
          intro X33 hO hT
          have nPB' := nPB.below lPB hT
          have lPB' := Nat.lt_of_lt_of_le lPB hT.size
          clear nPB lPB
          have nPB := nPB'
          have lPB := lPB'
          clear nPB' lPB'
          have nPU' := nPU.below lPU hT
          have lPU' := Nat.lt_of_lt_of_le lPU hT.size
          clear nPU lPU
          have nPU := nPU'
          have lPU := lPU'
          clear nPU' lPU'
          have nPA' := nPA.below lPA hT
          have lPA' := Nat.lt_of_lt_of_le lPA hT.size
          clear nPA lPA
          have nPA := nPA'
          have lPA := lPA'
          clear nPA' lPA'
          clear hT
          refine AllReadyG.cons (o := ?oit33s10) ?hot33s10 ?hKt33s10 AllReadyG.nil
          case hot33s10 => (simp only [List.getElem?_toArray, List.getElem?_cons_succ, List.getElem?_cons_zero]; rfl)
          intro KK hKK
          obtain ⟨u0, u1, u2, u3⟩ := nPU.quad
          have y0 := nPU.frozen 0
          have y1 := nPU.frozen 1
          have y2 := nPU.frozen 2
          have y3 := nPU.frozen 3
          go_simp
          have hO2 : Ok V2 (set4 X33 gPU (-1) 0 0 3) := hO.set4 bPU (-1) 0 0 3
          have nPB' : BkU (set4 X33 gPU (-1) 0 0 3) gPB _ _ _ _ := (heap_set4_ne dPBPU (-1) 0 0 3).trans nPB
          have lPB' : gPB < (set4 X33 gPU (-1) 0 0 3).heap.size := by rw [size_set4]; exact lPB
          have nPU' := nPU.store (-1) 0 0 3
          have lPU' : gPU < (set4 X33 gPU (-1) 0 0 3).heap.size := by rw [size_set4]; exact lPU
          have nPA' : BkU (set4 X33 gPU (-1) 0 0 3) gPA _ _ _ _ := (heap_set4_ne dPAPU (-1) 0 0 3).trans nPA
          have lPA' : gPA < (set4 X33 gPU (-1) 0 0 3).heap.size := by rw [size_set4]; exact lPA
          change KK _ (set4 X33 gPU (-1) 0 0 3)
          refine hKK.out _ _ hO2 (fun _ => ?_)
          clear hKK KK hO u0 u1 u2 u3 y0 y1 y2 y3 nPB lPB nPU lPU nPA lPA
          generalize set4 X33 gPU (-1) 0 0 3 = Z33 at *
          have nPB := nPB'
          have lPB := lPB'
          clear nPB' lPB'
          have nPU := nPU'
          have lPU := lPU'
          clear nPU' lPU'
          have nPA := nPA'
          have lPA := lPA'
          clear nPA' lPA'
          clear hO2
          (try simp only [Act.put, List.setIfInBounds_toArray, List.set_cons_zero, List.set_cons_succ])
          refine wpAnyG_done (by kernel_rfl) ?_ _
          intro X hO hT
          have nPB' := nPB.below lPB hT
          have lPB' := Nat.lt_of_lt_of_le lPB hT.size
          clear nPB lPB
          have nPB := nPB'
          have lPB := lPB'
          clear nPB' lPB'
          have nPU' := nPU.below lPU hT
          have lPU' := Nat.lt_of_lt_of_le lPU hT.size
          clear nPU lPU
          have nPU := nPU'
          have lPU := lPU'
          clear nPU' lPU'
          have nPA' := nPA.below lPA hT
          have lPA' := Nat.lt_of_lt_of_le lPA hT.size
          clear nPA lPA
          have nPA := nPA'
          have lPA := lPA'
          clear nPA' lPA'
          go_wp2_with fail
          go_meet
          exact ⟨gPA, gPB, gPU, rfl, rfl, rfl, ⟨nPA, lPA, Nat.le_trans oo.2.size bPA⟩, ⟨nPB, lPB, Nat.le_trans oo.2.size bPB⟩, ⟨nPU, lPU, Nat.le_trans oo.2.size bPU⟩, ⟨dPAPB, dPAPU, dPBPU⟩, hO⟩
    case hKt1n7 =>
      intro KK hKK
      go_simp
      obtain ⟨nPU, zPU, tPU⟩ := run_new X1 0 0 0 0 _ rfl
      have hO2 := hO.step tPU
      have lPU : X1.heap.size < (X1.alloc (Obj.cells #[Value.int IntKind.i8 0, Value.int IntKind.i64 0, Value.int IntKind.i8 0, Value.int IntKind.i64 0] 26)).heap.size := by omega
      have bPU : V2.heap.size ≤ X1.heap.size := hO.2.size
      refine hKK.out _ _ hO2 (fun _ => ?_)
      clear hKK KK hO hO2 zPU tPU
      generalize (X1.alloc (Obj.cells #[Value.int IntKind.i8 0, Value.int IntKind.i64 0, Value.int IntKind.i8 0, Value.int IntKind.i64 0] 26)) = Y34 at *
      generalize X1.heap.size = gPU at *
      (try simp only [Act.put, List.setIfInBounds_toArray, List.set_cons_zero, List.set_cons_succ])
      refine wpAnyG_ready (rs := [5, 6]) (by kernel_rfl) (by simp) ?_
      intro X35 hO hT
      have nPU' := nPU.below lPU hT
      have lPU' := Nat.lt_of_lt_of_le lPU hT.size
      clear nPU lPU
      have nPU := nPU'
      have lPU := lPU'
      clear nPU' lPU'
      clear hT
      refine AllReadyG.cons (o := ?oit35n5) ?hot35n5 ?hKt35n5 (AllReadyG.cons (o := ?oit35n6) ?hot35n6 ?hKt35n6 AllReadyG.nil)
      case hot35n5 => (simp only [List.getElem?_toArray, List.getElem?_cons_succ, List.getElem?_cons_zero]; rfl)
      case hot35n6 => (simp only [List.getElem?_toArray, List.getElem?_cons_succ, List.getElem?_cons_zero]; rfl)
      case hKt35n5 =>
        intro KK hKK
        go_simp
        obtain ⟨nPA, zPA, tPA⟩ := run_new X35 0 0 0 0 _ rfl
        have hO2 := hO.step tPA
        have lPA : X35.heap.size < (X35.alloc (Obj.cells #[Value.int IntKind.i8 0, Value.int IntKind.i64 0, Value.int IntKind.i8 0, Value.int IntKind.i64 0] 26)).heap.size := by omega
        have bPA : V2.heap.size ≤ X35.heap.size := hO.2.size
        have dPUPA : gPU ≠ X35.heap.size := Nat.ne_of_lt lPU
        have dPAPU := dPUPA.symm
        have nPU' := nPU.below lPU tPA
        have lPU' := Nat.lt_of_lt_of_le lPU tPA.size
        clear nPU lPU
        have nPU := nPU'
        have lPU := lPU'
        clear nPU' lPU'
        refine hKK.out _ _ hO2 (fun _ => ?_)
        clear hKK KK hO hO2 zPA tPA
        generalize (X35.alloc (Obj.cells #[Value.int IntKind.i8 0, Value.int IntKind.i64 0, Value.int IntKind.i8 0, Value.int IntKind.i64 0] 26)) = Y36 at *
        generalize X35.heap.size = gPA at *
        (try simp only [Act.put, List.setIfInBounds_toArray, List.set_cons_zero, List.set_cons_succ])
        refine wpAnyG_ready (rs := [6]) (by kernel_rfl) (by simp) ?_
        intro X37 hO hT
        have nPU' := nPU.below lPU hT
        have lPU' := Nat.lt_of_lt_of_le lPU hT.size
        clear nPU lPU
        have nPU := nPU'
        have lPU := lPU'
        clear nPU' lPU'
        have nPA' := nPA.below lPA hT
        have lPA' := Nat.lt_of_lt_of_le lPA hT.size
        clear nPA lPA
        have nPA := nPA'
        have lPA := lPA'
        clear nPA' lPA'
        clear hT
        refine AllReadyG.cons (o := ?oit37n6) ?hot37n6 ?hKt37n6 AllReadyG.nil
        case hot37n6 => (simp only [List.getElem?_toArray, List.getElem?_cons_succ, List.getElem?_cons_zero]; rfl)
        case hKt37n6 =>
          intro KK hKK
          go_simp
          obtain ⟨nPB, zPB, tPB⟩ := run_new X37 0 0 0 0 _ rfl
          have hO2 := hO.step tPB
          have lPB : X37.heap.size < (X37.alloc (Obj.cells #[Value.int IntKind.i8 0, Value.int IntKind.i64 0, Value.int IntKind.i8 0, Value.int IntKind.i64 0] 26)).heap.size := by omega
          have bPB : V2.heap.size ≤ X37.heap.size := hO.2.size
          have dPUPB : gPU ≠ X37.heap.size := Nat.ne_of_lt lPU
          have dPBPU := dPUPB.symm
          have nPU' := nPU.below lPU tPB
          have lPU' := Nat.lt_of_lt_of_le lPU tPB.size
          clear nPU lPU
          have nPU := nPU'
          have lPU := lPU'
          clear nPU' lPU'
          have dPAPB : gPA ≠ X37.heap.size := Nat.ne_of_lt lPA
          have dPBPA := dPAPB.symm
          have nPA' := nPA.below lPA tPB
          have lPA' := Nat.lt_of_lt_of_le lPA tPB.size
          clear nPA lPA
          have nPA := nPA'
          have lPA := lPA'
          clear nPA' lPA'
          refine hKK.out _ _ hO2 (fun _ => ?_)
          clear hKK KK hO hO2 zPB tPB
          generalize (X37.alloc (Obj.cells #[Value.int IntKind.i8 0, Value.int IntKind.i64 0, Value.int IntKind.i8 0, Value.int IntKind.i64 0] 26)) = Y38 at *
          generalize X37.heap.size = gPB at *
          (try simp only [Act.put, List.setIfInBounds_toArray, List.set_cons_zero, List.set_cons_succ])
          refine wpAnyG_ready (rs := [8]) (by kernel_rfl) (by simp) ?_
          intro X40 hO hT
          have nPU' := nPU.below lPU hT
          have lPU' := Nat.lt_of_lt_of_le lPU hT.size
          clear nPU lPU
          have nPU := nPU'
          have lPU := lPU'
          clear nPU' lPU'
          have nPA' := nPA.below lPA hT
          have lPA' := Nat.lt_of_lt_of_le lPA hT.size
          clear nPA lPA
          have nPA := nPA'
          have lPA := lPA'
          clear nPA' lPA'
          have nPB' := nPB.below lPB hT
          have lPB' := Nat.lt_of_lt_of_le lPB hT.size
          clear nPB lPB
          have nPB := nPB'
          have lPB := lPB'
          clear nPB' lPB'
          clear hT
          refine AllReadyG.cons (o := ?oit40s8) ?hot40s8 ?hKt40s8 AllReadyG.nil
          case hot40s8 => (simp only [List.getElem?_toArray, List.getElem?_cons_succ, List.getElem?_cons_zero]; rfl)
          intro KK hKK
          obtain ⟨u0, u1, u2, u3⟩ := nPA.quad
          have y0 := nPA.frozen 0
          have y1 := nPA.frozen 1
          have y2 := nPA.frozen 2
          have y3 := nPA.frozen 3
          go_simp
          have hO2 : Ok V2 (set4 X40 gPA 0 1 0 3) := hO.set4 bPA 0 1 0 3
          have nPU' : BkU (set4 X40 gPA 0 1 0 3) gPU _ _ _ _ := (heap_set4_ne dPUPA 0 1 0 3).trans nPU
          have lPU' : gPU < (set4 X40 gPA 0 1 0 3).heap.size := by rw [size_set4]; exact lPU
          have nPA' := nPA.store 0 1 0 3
          have lPA' : gPA < (set4 X40 gPA 0 1 0 3).heap.size := by rw [size_set4]; exact lPA
          have nPB' : BkU (set4 X40 gPA 0 1 0 3) gPB _ _ _ _ := (heap_set4_ne dPBPA 0 1 0 3).trans nPB
          have lPB' : gPB < (set4 X40 gPA 0 1 0 3).heap.size := by rw [size_set4]; exact lPB
          change KK _ (set4 X40 gPA 0 1 0 3)
          refine hKK.out _ _ hO2 (fun _ => ?_)
          clear hKK KK hO u0 u1 u2 u3 y0 y1 y2 y3 nPU lPU nPA lPA nPB lPB
          generalize set4 X40 gPA 0 1 0 3 = Z40 at *
          have nPU := nPU'
          have lPU := lPU'
          clear nPU' lPU'
          have nPA := nPA'
          have lPA := lPA'
          clear nPA' lPA'
          have nPB := nPB'
          have lPB := lPB'
          clear nPB' lPB'
          clear hO2
          (try simp only [Act.put, List.setIfInBounds_toArray, List.set_cons_zero, List.set_cons_succ])
          refine wpAnyG_ready (rs := [9]) (by kernel_rfl) (by simp) ?_
          intro X41 hO hT
          have nPU' := nPU.below lPU hT
          have lPU' := Nat.lt_of_lt_of_le lPU hT.size
          clear nPU lPU
          have nPU := nPU'
          have lPU := lPU'
          clear nPU' lPU'
          have nPA' := nPA.below lPA hT
          have lPA' := Nat.lt_of_lt_of_le lPA hT.size
          clear nPA lPA
          have nPA := nPA'
          have lPA := lPA'
          clear nPA' lPA'
          have nPB' := nPB.below lPB hT
          have lPB' := Nat.lt_of_lt_of_le lPB hT.size
          clear nPB lPB
          have nPB := nPB'
          have lPB := lPB'
          clear nPB' lPB'
          clear hT
          refine AllReadyG.cons (o := ?oit41s9) ?hot41s9 ?hKt41s9 AllReadyG.nil
          case hot41s9 => (simp only [List.getElem?_toArray, List.getElem?_cons_succ, List.getElem?_cons_zero]; rfl)
          intro KK hKK
          obtain ⟨u0, u1, u2, u3⟩ := nPB.quad
          have y0 := nPB.frozen 0
          have y1 := nPB.frozen 1
          have y2 := nPB.frozen 2
          have y3 := nPB.frozen 3
          go_simp
          have hO2 : Ok V2 (set4 X41 gPB 0 4 0 5) := hO.set4 bPB 0 4 0 5
          have nPU' : BkU (set4 X41 gPB 0 4 0 5) gPU _ _ _ _ := (heap_set4_ne dPUPB 0 4 0 5).trans nPU
          have lPU' : gPU < (set4 X41 gPB 0 4 0 5).heap.size := by rw [size_set4]; exact lPU
          have nPA' : BkU (set4 X41 gPB 0 4 0 5) gPA _ _ _ _ := (heap_set4_ne dPAPB 0 4 0 5).trans nPA
          have lPA' : gPA < (set4 X41 gPB 0 4 0 5).heap.size := by rw [size_set4]; exact lPA
          have nPB' := nPB.store 0 4 0 5
          have lPB' : gPB < (set4 X41 gPB 0 4 0 5).heap.size := by rw [size_set4]; exact lPB
          change KK _ (set4 X41 gPB 0 4 0 5)
          refine hKK.out _ _ hO2 (fun _ => ?_)
          clear hKK KK hO u0 u1 u2 u3 y0 y1 y2 y3 nPU lPU nPA lPA nPB lPB
          generalize set4 X41 gPB 0 4 0 5 = Z41 at *
          have nPU := nPU'
          have lPU := lPU'
          clear nPU' lPU'
          have nPA := nPA'
          have lPA := lPA'
          clear nPA' lPA'
          have nPB := nPB'
          have lPB := lPB'
          clear nPB' lPB'
          clear hO2
          (try simp only [Act.put, List.setIfInBounds_toArray, List.set_cons_zero, List.set_cons_succ])
          refine wpAnyG_ready (rs := [10]) (by kernel_rfl) (by simp) ?_
          intro X42 hO hT
          have nPU' := nPU.below lPU hT
          have lPU' := Nat.lt_of_lt_of_le lPU hT.size
          clear nPU lPU
          have nPU := nPU'
          have lPU := lPU'
          clear nPU' lPU'
          have nPA' := nPA.below lPA hT
          have lPA' := Nat.lt_of_lt_of_le lPA hT.size
          clear nPA lPA
          have nPA := nPA'
          have lPA := lPA'
          clear nPA' lPA'
          have nPB' := nPB.below lPB hT
          have lPB' := Nat.lt_of_lt_of_le lPB hT.size
          clear nPB lPB
          have nPB := nPB'
          have lPB := lPB'
          clear nPB' lPB'
          clear hT
          refine AllReadyG.cons (o := ?oit42s10) ?hot42s10 ?hKt42s10 AllReadyG.nil
          case hot42s10 => (simp only [List.getElem?_toArray, List.getElem?_cons_succ, List.getElem?_cons_zero]; rfl)
          intro KK hKK
          obtain ⟨u0, u1, u2, u3⟩ := nPU.quad
          have y0 := nPU.frozen 0
          have y1 := nPU.frozen 1
          have y2 := nPU.frozen 2
          have y3 := nPU.frozen 3
          go_simp
          have hO2 : Ok V2 (set4 X42 gPU (-1) 0 0 3) := hO.set4 bPU (-1) 0 0 3
          have nPU' := nPU.store (-1) 0 0 3
          have lPU' : gPU < (set4 X42 gPU (-1) 0 0 3).heap.size := by rw [size_set4]; exact lPU
          have nPA' : BkU (set4 X42 gPU (-1) 0 0 3) gPA _ _ _ _ := (heap_set4_ne dPAPU (-1) 0 0 3).trans nPA
          have lPA' : gPA < (set4 X42 gPU (-1) 0 0 3).heap.size := by rw [size_set4]; exact lPA
          have nPB' : BkU (set4 X42 gPU (-1) 0 0 3) gPB _ _ _ _ := (heap_set4_ne dPBPU (-1) 0 0 3).trans nPB
          have lPB' : gPB < (set4 X42 gPU (-1) 0 0 3).heap.size := by rw [size_set4]; exact lPB
          change KK _ (set4 X42 gPU (-1) 0 0 3)
          refine hKK.out _ _ hO2 (fun _ => ?_)
          clear hKK KK hO u0 u1 u2 u3 y0 y1 y2 y3 nPU lPU nPA lPA nPB lPB
          generalize set4 X42 gPU (-1) 0 0 3 = Z42 at *
          have nPU := nPU'
          have lPU := lPU'
          clear nPU' lPU'
          have nPA := nPA'
          have lPA := lPA'
          clear nPA' lPA'
          have nPB := nPB'
          have lPB := lPB'
          clear nPB' lPB'
          clear hO2
          (try simp only [Act.put, List.setIfInBounds_toArray, List.set_cons_zero, List.set_cons_succ])
          refine wpAnyG_done (by kernel_rfl) ?_ _
          intro X hO hT
          have nPU' := nPU.below lPU hT
          have lPU' := Nat.lt_of_lt_of_le lPU hT.size
          clear nPU lPU
          have nPU := nPU'
          have lPU := lPU'
          clear nPU' lPU'
          have nPA' := nPA.below lPA hT
          have lPA' := Nat.lt_of_lt_of_le lPA hT.size
          clear nPA lPA
          have nPA := nPA'
          have lPA := lPA'
          clear nPA' lPA'
          have nPB' := nPB.below lPB hT
          have lPB' := Nat.lt_of_lt_of_le lPB hT.size
          clear nPB lPB
          have nPB := nPB'
          have lPB := lPB'
          clear nPB' lPB'
          go_wp2_with fail
          go_meet
          exact ⟨gPA, gPB, gPU, rfl, rfl, rfl, ⟨nPA, lPA, Nat.le_trans oo.2.size bPA⟩, ⟨nPB, lPB, Nat.le_trans oo.2.size bPB⟩, ⟨nPU, lPU, Nat.le_trans oo.2.size bPU⟩, ⟨dPAPB, dPAPU, dPBPU⟩, hO⟩
      case hKt35n6 =>
        intro KK hKK
        go_simp
        obtain ⟨nPB, zPB, tPB⟩ := run_new X35 0 0 0 0 _ rfl
        have hO2 := hO.step tPB
        have lPB : X35.heap.size < (X35.alloc (Obj.cells #[Value.int IntKind.i8 0, Value.int IntKind.i64 0, Value.int IntKind.i8 0, Value.int IntKind.i64 0] 26)).heap.size := by omega
        have bPB : V2.heap.size ≤ X35.heap.size := hO.2.size
        have dPUPB : gPU ≠ X35.heap.size := Nat.ne_of_lt lPU
        have dPBPU := dPUPB.symm
        have nPU' := nPU.below lPU tPB
        have lPU' := Nat.lt_of_lt_of_le lPU tPB.size
        clear nPU lPU
        have nPU := nPU'
        have lPU := lPU'
        clear nPU' lPU'
        refine hKK.out _ _ hO2 (fun _ => ?_)
        clear hKK KK hO hO2 zPB tPB
        generalize (X35.alloc (Obj.cells #[Value.int IntKind.i8 0, Value.int IntKind.i64 0, Value.int IntKind.i8 0, Value.int IntKind.i64 0] 26)) = Y43 at *
        generalize X35.heap.size = gPB at *
        (try simp only [Act.put, List.setIfInBounds_toArray, List.set_cons_zero, List.set_cons_succ])
        refine wpAnyG_ready (rs := [5]) (by kernel_rfl) (by simp) ?_
        intro X44 hO hT
        have nPU' := nPU.below lPU hT
        have lPU' := Nat.lt_of_lt_of_le lPU hT.size
        clear nPU lPU
        have nPU := nPU'
        have lPU := lPU'
        clear nPU' lPU'
        have nPB' := nPB.below lPB hT
        have lPB' := Nat.lt_of_lt_of_le lPB hT.size
        clear nPB lPB
        have nPB := nPB'
        have lPB := lPB'
        clear nPB' lPB'
        clear hT
        refine AllReadyG.cons (o := ?oit44n5) ?hot44n5 ?hKt44n5 AllReadyG.nil
        case hot44n5 => (simp only [List.getElem?_toArray, List.getElem?_cons_succ, List.getElem?_cons_zero]; rfl)
        case hKt44n5 =>
          intro KK hKK
          go_simp
          obtain ⟨nPA, zPA, tPA⟩ := run_new X44 0 0 0 0 _ rfl
          have hO2 := hO.step tPA
          have lPA : X44.heap.size < (X44.alloc (Obj.cells #[Value.int IntKind.i8 0, Value.int IntKind.i64 0, Value.int IntKind.i8 0, Value.int IntKind.i64 0] 26)).heap.size := by omega
          have bPA : V2.heap.size ≤ X44.heap.size := hO.2.size
          have dPUPA : gPU ≠ X44.heap.size := Nat.ne_of_lt lPU
          have dPAPU := dPUPA.symm
          have nPU' := nPU.below lPU tPA
          have lPU' := Nat.lt_of_lt_of_le lPU tPA.size
          clear nPU lPU
          have nPU := nPU'
          have lPU := lPU'
          clear nPU' lPU'
          have dPBPA : gPB ≠ X44.heap.size := Nat.ne_of_lt lPB
          have dPAPB := dPBPA.symm
          have nPB' := nPB.below lPB tPA
          have lPB' := Nat.lt_of_lt_of_le lPB tPA.size
          clear nPB lPB
          have nPB := nPB'
          have lPB := lPB'
          clear nPB' lPB'
          refine hKK.out _ _ hO2 (fun _ => ?_)
          clear hKK KK hO hO2 zPA tPA
          generalize (X44.alloc (Obj.cells #[Value.int IntKind.i8 0, Value.int IntKind.i64 0, Value.int IntKind.i8 0, Value.int IntKind.i64 0] 26)) = Y45 at *
          generalize X44.heap.size = gPA at *
          (try simp only [Act.put, List.setIfInBounds_toArray, List.set_cons_zero, List.set_cons_succ])
          refine wpAnyG_ready (rs := [8]) (by kernel_rfl) (by simp) ?_
          intro X47 hO hT
          have nPU' := nPU.below lPU hT
          have lPU' := Nat.lt_of_lt_of_le lPU hT.size
          clear nPU lPU
          have nPU := nPU'
          have lPU := lPU'
          clear nPU' lPU'
          have nPB' := nPB.below lPB hT
          have lPB' := Nat.lt_of_lt_of_le lPB hT.size
          clear nPB lPB
          have nPB := nPB'
          have lPB := lPB'
          clear nPB' lPB'
          have nPA' := nPA.below lPA hT
          have lPA' := Nat.lt_of_lt_of_le lPA hT.size
          clear nPA lPA
          have nPA := nPA'
          have lPA := lPA'
          clear nPA' lPA'
          clear hT
          refine AllReadyG.cons (o := ?oit47s8) ?hot47s8 ?hKt47s8 AllReadyG.nil
          case hot47s8 => (simp only [List.getElem?_toArray, List.getElem?_cons_succ, List.getElem?_cons_zero]; rfl)
          intro KK hKK
          obtain ⟨u0, u1, u2, u3⟩ := nPA.quad
          have y0 := nPA.frozen 0
          have y1 := nPA.frozen 1
          have y2 := nPA.frozen 2
          have y3 := nPA.frozen 3
          go_simp
          have hO2 : Ok V2 (set4 X47 gPA 0 1 0 3) := hO.set4 bPA 0 1 0 3
          have nPU' : BkU (set4 X47 gPA 0 1 0 3) gPU _ _ _ _ := (heap_set4_ne dPUPA 0 1 0 3).trans nPU
          have lPU' : gPU < (set4 X47 gPA 0 1 0 3).heap.size := by rw [size_set4]; exact lPU
          have nPB' : BkU (set4 X47 gPA 0 1 0 3) gPB _ _ _ _ := (heap_set4_ne dPBPA 0 1 0 3).trans nPB
          have lPB' : gPB < (set4 X47 gPA 0 1 0 3).heap.size := by rw [size_set4]; exact lPB
          have nPA' := nPA.store 0 1 0 3
          have lPA' : gPA < (set4 X47 gPA 0 1 0 3).heap.size := by rw [size_set4]; exact lPA
          change KK _ (set4 X47 gPA 0 1 0 3)
          refine hKK.out _ _ hO2 (fun _ => ?_)
          clear hKK KK hO u0 u1 u2 u3 y0 y1 y2 y3 nPU lPU nPB lPB nPA lPA
          generalize set4 X47 gPA 0 1 0 3 = Z47 at *
          have nPU := nPU'
          have lPU := lPU'
          clear nPU' lPU'
          have nPB := nPB'
          have lPB := lPB'
          clear nPB' lPB'
          have nPA := nPA'
          have lPA := lPA'
          clear nPA' lPA'
          clear hO2
          (try simp only [Act.put, List.setIfInBounds_toArray, List.set_cons_zero, List.set_cons_succ])
          refine wpAnyG_ready (rs := [9]) (by kernel_rfl) (by simp) ?_
          intro X48 hO hT
          have nPU' := nPU.below lPU hT
          have lPU' := Nat.lt_of_lt_of_le lPU hT.size
          clear nPU lPU
          have nPU := nPU'
          have lPU := lPU'
          clear nPU' lPU'
          have nPB' := nPB.below lPB hT
          have lPB' := Nat.lt_of_lt_of_le lPB hT.size
          clear nPB lPB
          have nPB := nPB'
          have lPB := lPB'
          clear nPB' lPB'
          have nPA' := nPA.below lPA hT
          have lPA' := Nat.lt_of_lt_of_le lPA hT.size
          clear nPA lPA
          have nPA := nPA'
          have lPA := lPA'
          clear nPA' lPA'
          clear hT
          refine AllReadyG.cons (o := ?oit48s9) ?hot48s9 ?hKt48s9 AllReadyG.nil
          case hot48s9 => (simp only [List.getElem?_toArray, List.getElem?_cons_succ, List.getElem?_cons_zero]; rfl)
          intro KK hKK
          obtain ⟨u0, u1, u2, u3⟩ := nPB.quad
          have y0 := nPB.frozen 0
          have y1 := nPB.frozen 1
          have y2 := nPB.frozen 2
          have y3 := nPB.frozen 3
          go_simp
          have hO2 : Ok V2 (set4 X48 gPB 0 4 0 5) := hO.set4 bPB 0 4 0 5
          have nPU' : BkU (set4 X48 gPB 0 4 0 5) gPU _ _ _ _ := (heap_set4_ne dPUPB 0 4 0 5).trans nPU
          have lPU' : gPU < (set4 X48 gPB 0 4 0 5).heap.size := by rw [size_set4]; exact lPU
          have nPB' := nPB.store 0 4 0 5
          have lPB' : gPB < (set4 X48 gPB 0 4 0 5).heap.size := by rw [size_set4]; exact lPB
          have nPA' : BkU (set4 X48 gPB 0 4 0 5) gPA _ _ _ _ := (heap_set4_ne dPAPB 0 4 0 5).trans nPA
          have lPA' : gPA < (set4 X48 gPB 0 4 0 5).heap.size := by rw [size_set4]; exact lPA
          change KK _ (set4 X48 gPB 0 4 0 5)
          refine hKK.out _ _ hO2 (fun _ => ?_)
          clear hKK KK hO u0 u1 u2 u3 y0 y1 y2 y3 nPU lPU nPB lPB nPA lPA
          generalize set4 X48 gPB 0 4 0 5 = Z48 at *
          have nPU := nPU'
          have lPU := lPU'
          clear nPU' lPU'
          have nPB := nPB'
          have lPB := lPB'
          clear nPB' lPB'
          have nPA := nPA'
          have lPA := lPA'
          clear nPA' lPA'
          clear hO2
          (try simp only [Act.put, List.setIfInBounds_toArray, List.set_cons_zero, List.set_cons_succ])
          refine wpAnyG_ready (rs := [10]) (by kernel_rfl) (by simp) ?_
          intro X49 hO hT
          have nPU' := nPU.below lPU hT
          have lPU' := Nat.lt_of_lt_of_le lPU hT.size
          clear nPU lPU
          have nPU := nPU'
          have lPU := lPU'
          clear nPU' lPU'
          have nPB' := nPB.below lPB hT
          have lPB' := Nat.lt_of_lt_of_le lPB hT.size
          clear nPB lPB
          have nPB := nPB'
          have lPB := lPB'
          clear nPB' lPB'
          have nPA' := nPA.below lPA hT
          have lPA' := Nat.lt_of_lt_of_le lPA hT.size
          clear nPA lPA
          have nPA := nPA'
          have lPA := lPA'
          clear nPA' lPA'
          clear hT
          refine AllReadyG.cons (o := ?oit49s10) ?hot49s10 ?hKt49s10 AllReadyG.nil
          case hot49s10 => (simp only [List.getElem?_toArray, List.getElem?_cons_succ, List.getElem?_cons_zero]; rfl)
          intro KK hKK
          obtain ⟨u0, u1, u2, u3⟩ := nPU.quad
          have y0 := nPU.frozen 0
          have y1 := nPU.frozen 1
          have y2 := nPU.frozen 2
          have y3 := nPU.frozen 3
          go_simp
          have hO2 : Ok V2 (set4 X49 gPU (-1) 0 0 3) := hO.set4 bPU (-1) 0 0 3
          have nPU' := nPU.store (-1) 0 0 3
          have lPU' : gPU < (set4 X49 gPU (-1) 0 0 3).heap.size := by rw [size_set4]; exact lPU
          have nPB' : BkU (set4 X49 gPU (-1) 0 0 3) gPB _ _ _ _ := (heap_set4_ne dPBPU (-1) 0 0 3).trans nPB
          have lPB' : gPB < (set4 X49 gPU (-1) 0 0 3).heap.size := by rw [size_set4]; exact lPB
          have nPA' : BkU (set4 X49 gPU (-1) 0 0 3) gPA _ _ _ _ := (heap_set4_ne dPAPU (-1) 0 0 3).trans nPA
          have lPA' : gPA < (set4 X49 gPU (-1) 0 0 3).heap.size := by rw [size_set4]; exact lPA
          change KK _ (set4 X49 gPU (-1) 0 0 3)
          refine hKK.out _ _ hO2 (fun _ => ?_)
          clear hKK KK hO u0 u1 u2 u3 y0 y1 y2 y3 nPU lPU nPB lPB nPA lPA
          generalize set4 X49 gPU (-1) 0 0 3 = Z49 at *
          have nPU := nPU'
          have lPU := lPU'
          clear nPU' lPU'
          have nPB := nPB'
          have lPB := lPB'
          clear nPB' lPB'
          have nPA := nPA'
          have lPA := lPA'
          clear nPA' lPA'
          clear hO2
          (try simp only [Act.put, List.setIfInBounds_toArray, List.set_cons_zero, List.set_cons_succ])
          refine wpAnyG_done (by kernel_rfl) ?_ _
          intro X hO hT
          have nPU' := nPU.below lPU hT
          have lPU' := Nat.lt_of_lt_of_le lPU hT.size
          clear nPU lPU
          have nPU := nPU'
          have lPU := lPU'
          clear nPU' lPU'
          have nPB' := nPB.below lPB hT
          have lPB' := Nat.lt_of_lt_of_le lPB hT.size
          clear nPB lPB
          have nPB := nPB'
          have lPB := lPB'
          clear nPB' lPB'
          have nPA' := nPA.below lPA hT
          have lPA' := Nat.lt_of_lt_of_le lPA hT.size
          clear nPA lPA
          have nPA := nPA'
          have lPA := lPA'
          clear nPA' lPA'
          go_wp2_with fail
          go_meet
          exact ⟨gPA, gPB, gPU, rfl, rfl, rfl, ⟨nPA, lPA, Nat.le_trans oo.2.size bPA⟩, ⟨nPB, lPB, Nat.le_trans oo.2.size bPB⟩, ⟨nPU, lPU, Nat.le_trans oo.2.size bPU⟩, ⟨dPAPB, dPAPU, dPBPU⟩, hO⟩
  case rest =>
    obtain ⟨gPA, gPB, gPU, rfl, rfl, rfl, ⟨nPA, kPA, ePA⟩, ⟨nPB, kPB, ePB⟩, ⟨nPU, kPU, ePU⟩, ⟨dPAPB, dPAPU, dPBPU⟩, ow⟩ := hcut
    clear oc DT13 DT45
    generalize wc = V3 at *
    have oc := ow
    clear ow
    have ocY := oc
    have hlo' := hlo.below llo ocY.2
    have llo' := Nat.lt_of_lt_of_le llo ocY.2.size
    have hhi' := hhi.below lhi ocY.2
    have lhi' := Nat.lt_of_lt_of_le lhi ocY.2.size
    (try clear lo0 lo1 hi0 hi1)
    have oo' := oo.step ocY.2
    clear ocY oo oc hlo llo hhi lhi
    have hlo := hlo'
    have llo := llo'
    clear hlo' llo'
    have hhi := hhi'
    have lhi := lhi'
    clear hhi' lhi'
    have oo := oo'
    clear oo'
    have oc := Ok.refl oo.1
    have hPA := nPA
    have lPA := kPA
    have hPB := nPB
    have lPB := kPB
    have hPU := nPU
    have lPU := kPU
    clear nPA kPA nPB kPB nPU kPU
    obtain ⟨lo0, lo1⟩ := (id hlo).duo
    obtain ⟨hi0, hi1⟩ := (id hhi).duo
    obtain ⟨PA0, PA1, PA2, PA3⟩ := (id hPA).quad
    obtain ⟨PB0, PB1, PB2, PB3⟩ := (id hPB).quad
    obtain ⟨PU0, PU1, PU2, PU3⟩ := (id hPU).quad
    go_upto_region 3 with fail
    (try clear lo0 lo1 hi0 hi1 PA0 PA1 PA2 PA3 PB0 PB1 PB2 PB3 PU0 PU1 PU2 PU3)
    have HF := Lib.hid (fun X (h : Ok V3 X) => And.intro (hlo.below llo h.2).duo (And.intro (hhi.below lhi h.2).duo (And.intro (hPA.below lPA h.2).quad (And.intro (hPB.below lPB h.2).quad (And.intro (hPU.below lPU h.2).quad (trivial))))))
    refine wp_region_G (S := (Ok V3)) (by kernel_rfl) growsB (oc.step (by go_grown)) ?_
    refine tG (i := 0) (o := ?od1n0) (v := ?vd1n0) growsB ?id1n0 (by kernel_rfl) ?qd1n0 ?yd1n0 ?rd1n0
    case id1n0 => (simp only [gA, gZ]; rfl)
    case qd1n0 => exact fun _ _ _ h => h
    case yd1n0 => exact .inl ⟨by rfl, by (intro w hSw; obtain ⟨⟨lo0, lo1⟩, ⟨hi0, hi1⟩, ⟨PA0, PA1, PA2, PA3⟩, ⟨PB0, PB1, PB2, PB3⟩, ⟨PU0, PU1, PU2, PU3⟩, -⟩ := HF.out w hSw; go_simp; try with_reducible rfl)⟩
    (try simp only [Act.put, pA, pZ, pS])
    refine tG (i := 1) (o := ?od1n1) (v := ?vd1n1) growsB ?id1n1 (by kernel_rfl) ?qd1n1 ?yd1n1 ?rd1n1
    case id1n1 => (simp only [gA, gS, gZ]; rfl)
    case qd1n1 => exact fun _ _ _ h => h
    case yd1n1 => exact .inl ⟨by rfl, by (intro w hSw; obtain ⟨⟨lo0, lo1⟩, ⟨hi0, hi1⟩, ⟨PA0, PA1, PA2, PA3⟩, ⟨PB0, PB1, PB2, PB3⟩, ⟨PU0, PU1, PU2, PU3⟩, -⟩ := HF.out w hSw; go_simp; try with_reducible rfl)⟩
    (try simp only [Act.put, pA, pZ, pS])
    refine cG (i := 2) (o := ?od1n2) growsB ?id1n2 (by kernel_rfl) ?qd1n2 ?wd1n2 ?ed1n2 (fun X hX => callO T1.out hX) ?rd1n2
    case id1n2 => (simp only [gA, gS, gZ]; rfl)
    case qd1n2 => exact fun _ _ _ h => h
    case wd1n2 => rfl
    case ed1n2 => (intro w; go_simp; try with_reducible rfl)
    (try simp only [Act.put, pA, pZ, pS])
    refine tG (i := 3) (o := ?od1n3) (v := ?vd1n3) growsB ?id1n3 (by kernel_rfl) ?qd1n3 ?yd1n3 ?rd1n3
    case id1n3 => (simp only [gA, gS, gZ]; rfl)
    case qd1n3 => exact fun _ _ _ h => h
    case yd1n3 => exact .inl ⟨by rfl, by (intro w hSw; obtain ⟨⟨lo0, lo1⟩, ⟨hi0, hi1⟩, ⟨PA0, PA1, PA2, PA3⟩, ⟨PB0, PB1, PB2, PB3⟩, ⟨PU0, PU1, PU2, PU3⟩, -⟩ := HF.out w hSw; go_simp; try with_reducible rfl)⟩
    (try simp only [Act.put, pA, pZ, pS])
    refine tG (i := 4) (o := ?od1n4) (v := ?vd1n4) growsB ?id1n4 (by kernel_rfl) ?qd1n4 ?yd1n4 ?rd1n4
    case id1n4 => (simp only [gA, gS, gZ]; rfl)
    case qd1n4 => exact fun _ _ _ h => h
    case yd1n4 => exact .inl ⟨by rfl, by (intro w hSw; obtain ⟨⟨lo0, lo1⟩, ⟨hi0, hi1⟩, ⟨PA0, PA1, PA2, PA3⟩, ⟨PB0, PB1, PB2, PB3⟩, ⟨PU0, PU1, PU2, PU3⟩, -⟩ := HF.out w hSw; go_simp; try with_reducible rfl)⟩
    (try simp only [Act.put, pA, pZ, pS])
    refine tG (i := 5) (o := ?od1n5) (v := ?vd1n5) growsB ?id1n5 (by kernel_rfl) ?qd1n5 ?yd1n5 ?rd1n5
    case id1n5 => (simp only [gA, gS, gZ]; rfl)
    case qd1n5 => exact fun _ _ _ h => h
    case yd1n5 => exact .inl ⟨by rfl, by (intro w hSw; obtain ⟨⟨lo0, lo1⟩, ⟨hi0, hi1⟩, ⟨PA0, PA1, PA2, PA3⟩, ⟨PB0, PB1, PB2, PB3⟩, ⟨PU0, PU1, PU2, PU3⟩, -⟩ := HF.out w hSw; go_simp; try with_reducible rfl)⟩
    (try simp only [Act.put, pA, pZ, pS])
    refine cG (i := 6) (o := ?od1n6) growsB ?id1n6 (by kernel_rfl) ?qd1n6 ?wd1n6 ?ed1n6 (fun X hX => callO D56.out hX) ?rd1n6
    case id1n6 => (simp only [gA, gS, gZ]; rfl)
    case qd1n6 => exact fun _ _ _ h => h
    case wd1n6 => rfl
    case ed1n6 => (intro w; go_simp; try with_reducible rfl)
    (try simp only [Act.put, pA, pZ, pS])
    refine cG (i := 7) (o := ?od1n7) growsB ?id1n7 (by kernel_rfl) ?qd1n7 ?wd1n7 ?ed1n7 (fun X hX => callO T2.out hX) ?rd1n7
    case id1n7 => (simp only [gA, gS, gZ]; rfl)
    case qd1n7 => exact fun _ _ _ h => h
    case wd1n7 => rfl
    case ed1n7 => (intro w; go_simp; try with_reducible rfl)
    (try simp only [Act.put, pA, pZ, pS])
    refine tG (i := 8) (o := ?od1n8) (v := ?vd1n8) growsB ?id1n8 (by kernel_rfl) ?qd1n8 ?yd1n8 ?rd1n8
    case id1n8 => (simp only [gA, gS, gZ]; rfl)
    case qd1n8 => exact fun _ _ _ h => h
    case yd1n8 => exact .inl ⟨by rfl, by (intro w hSw; obtain ⟨⟨lo0, lo1⟩, ⟨hi0, hi1⟩, ⟨PA0, PA1, PA2, PA3⟩, ⟨PB0, PB1, PB2, PB3⟩, ⟨PU0, PU1, PU2, PU3⟩, -⟩ := HF.out w hSw; go_simp; try with_reducible rfl)⟩
    (try simp only [Act.put, pA, pZ, pS])
    refine tG (i := 9) (o := ?od1n9) (v := ?vd1n9) growsB ?id1n9 (by kernel_rfl) ?qd1n9 ?yd1n9 ?rd1n9
    case id1n9 => (simp only [gA, gS, gZ]; rfl)
    case qd1n9 => exact fun _ _ _ h => h
    case yd1n9 => exact .inl ⟨by rfl, by (intro w hSw; obtain ⟨⟨lo0, lo1⟩, ⟨hi0, hi1⟩, ⟨PA0, PA1, PA2, PA3⟩, ⟨PB0, PB1, PB2, PB3⟩, ⟨PU0, PU1, PU2, PU3⟩, -⟩ := HF.out w hSw; go_simp; try with_reducible rfl)⟩
    (try simp only [Act.put, pA, pZ, pS])
    refine tG (i := 10) (o := ?od1n10) (v := ?vd1n10) growsB ?id1n10 (by kernel_rfl) ?qd1n10 ?yd1n10 ?rd1n10
    case id1n10 => (simp only [gA, gS, gZ]; rfl)
    case qd1n10 => exact fun _ _ _ h => h
    case yd1n10 => exact .inl ⟨by rfl, by (intro w hSw; obtain ⟨⟨lo0, lo1⟩, ⟨hi0, hi1⟩, ⟨PA0, PA1, PA2, PA3⟩, ⟨PB0, PB1, PB2, PB3⟩, ⟨PU0, PU1, PU2, PU3⟩, -⟩ := HF.out w hSw; go_simp; try with_reducible rfl)⟩
    (try simp only [Act.put, pA, pZ, pS])
    refine tG (i := 11) (o := ?od1n11) (v := ?vd1n11) growsB ?id1n11 (by kernel_rfl) ?qd1n11 ?yd1n11 ?rd1n11
    case id1n11 => (simp only [gA, gS, gZ]; rfl)
    case qd1n11 => exact fun _ _ _ h => h
    case yd1n11 => exact .inl ⟨by rfl, by (intro w hSw; obtain ⟨⟨lo0, lo1⟩, ⟨hi0, hi1⟩, ⟨PA0, PA1, PA2, PA3⟩, ⟨PB0, PB1, PB2, PB3⟩, ⟨PU0, PU1, PU2, PU3⟩, -⟩ := HF.out w hSw; go_simp; try with_reducible rfl)⟩
    (try simp only [Act.put, pA, pZ, pS])
    refine tG (i := 12) (o := ?od1n12) (v := ?vd1n12) growsB ?id1n12 (by kernel_rfl) ?qd1n12 ?yd1n12 ?rd1n12
    case id1n12 => (simp only [gA, gS, gZ]; rfl)
    case qd1n12 => exact fun _ _ _ h => h
    case yd1n12 => exact .inl ⟨by rfl, by (intro w hSw; obtain ⟨⟨lo0, lo1⟩, ⟨hi0, hi1⟩, ⟨PA0, PA1, PA2, PA3⟩, ⟨PB0, PB1, PB2, PB3⟩, ⟨PU0, PU1, PU2, PU3⟩, -⟩ := HF.out w hSw; go_simp; try with_reducible rfl)⟩
    (try simp only [Act.put, pA, pZ, pS])
    refine tG (i := 13) (o := ?od1n13) (v := ?vd1n13) growsB ?id1n13 (by kernel_rfl) ?qd1n13 ?yd1n13 ?rd1n13
    case id1n13 => (simp only [gA, gS, gZ]; rfl)
    case qd1n13 => exact fun _ _ _ h => h
    case yd1n13 => exact .inl ⟨by rfl, by (intro w hSw; obtain ⟨⟨lo0, lo1⟩, ⟨hi0, hi1⟩, ⟨PA0, PA1, PA2, PA3⟩, ⟨PB0, PB1, PB2, PB3⟩, ⟨PU0, PU1, PU2, PU3⟩, -⟩ := HF.out w hSw; go_simp; try with_reducible rfl)⟩
    (try simp only [Act.put, pA, pZ, pS])
    refine cG (i := 14) (o := ?od1n14) growsB ?id1n14 (by kernel_rfl) ?qd1n14 ?wd1n14 ?ed1n14 (fun X hX => callO T3.out hX) ?rd1n14
    case id1n14 => (simp only [gA, gS, gZ]; rfl)
    case qd1n14 => exact fun _ _ _ h => h
    case wd1n14 => rfl
    case ed1n14 => (intro w; go_simp; try with_reducible rfl)
    (try simp only [Act.put, pA, pZ, pS])
    refine tG (i := 15) (o := ?od1n15) (v := ?vd1n15) growsB ?id1n15 (by kernel_rfl) ?qd1n15 ?yd1n15 ?rd1n15
    case id1n15 => (simp only [gA, gS, gZ]; rfl)
    case qd1n15 => exact fun _ _ _ h => h
    case yd1n15 => exact .inl ⟨by rfl, by (intro w hSw; obtain ⟨⟨lo0, lo1⟩, ⟨hi0, hi1⟩, ⟨PA0, PA1, PA2, PA3⟩, ⟨PB0, PB1, PB2, PB3⟩, ⟨PU0, PU1, PU2, PU3⟩, -⟩ := HF.out w hSw; go_simp; try with_reducible rfl)⟩
    (try simp only [Act.put, pA, pZ, pS])
    refine tG (i := 16) (o := ?od1n16) (v := ?vd1n16) growsB ?id1n16 (by kernel_rfl) ?qd1n16 ?yd1n16 ?rd1n16
    case id1n16 => (simp only [gA, gS, gZ]; rfl)
    case qd1n16 => exact fun _ _ _ h => h
    case yd1n16 => exact .inl ⟨by rfl, by (intro w hSw; obtain ⟨⟨lo0, lo1⟩, ⟨hi0, hi1⟩, ⟨PA0, PA1, PA2, PA3⟩, ⟨PB0, PB1, PB2, PB3⟩, ⟨PU0, PU1, PU2, PU3⟩, -⟩ := HF.out w hSw; go_simp; try with_reducible rfl)⟩
    (try simp only [Act.put, pA, pZ, pS])
    refine wpAnyG_done (by kernel_rfl) ?_ _
    (try clear hX)
    intro w9 hX hT
    clear HF
    have oc := hX
    clear hX hT
    generalize w9 = V4 at *
    have ocY := oc
    have hlo' := hlo.below llo ocY.2
    have llo' := Nat.lt_of_lt_of_le llo ocY.2.size
    have hhi' := hhi.below lhi ocY.2
    have lhi' := Nat.lt_of_lt_of_le lhi ocY.2.size
    have hPA' := hPA.below lPA ocY.2
    have lPA' := Nat.lt_of_lt_of_le lPA ocY.2.size
    have hPB' := hPB.below lPB ocY.2
    have lPB' := Nat.lt_of_lt_of_le lPB ocY.2.size
    have hPU' := hPU.below lPU ocY.2
    have lPU' := Nat.lt_of_lt_of_le lPU ocY.2.size
    (try clear lo0 lo1 hi0 hi1 PA0 PA1 PA2 PA3 PB0 PB1 PB2 PB3 PU0 PU1 PU2 PU3)
    have oo' := oo.step ocY.2
    clear ocY oo oc hlo llo hhi lhi hPA lPA hPB lPB hPU lPU
    have hlo := hlo'
    have llo := llo'
    clear hlo' llo'
    have hhi := hhi'
    have lhi := lhi'
    clear hhi' lhi'
    have hPA := hPA'
    have lPA := lPA'
    clear hPA' lPA'
    have hPB := hPB'
    have lPB := lPB'
    clear hPB' lPB'
    have hPU := hPU'
    have lPU := lPU'
    clear hPU' lPU'
    have oo := oo'
    clear oo'
    have oc := Ok.refl oo.1
    obtain ⟨lo0, lo1⟩ := (id hlo).duo
    obtain ⟨hi0, hi1⟩ := (id hhi).duo
    obtain ⟨PA0, PA1, PA2, PA3⟩ := (id hPA).quad
    obtain ⟨PB0, PB1, PB2, PB3⟩ := (id hPB).quad
    obtain ⟨PU0, PU1, PU2, PU3⟩ := (id hPU).quad
    clear T1 T2 T3 D56
    go_upto_region 6 with (go_at_call 13; ((with_reducible refine (J1.out _ _ (oc.step (by go_grown))).mono ?_); rintro e1 w2 ⟨rfl, hk⟩; (try clear oc); have oc := hk; clear hk; (try clear lo0 lo1); have clo := hlo.below llo oc.2; obtain ⟨lo0, lo1⟩ := clo.duo; clear clo; (try clear hi0 hi1); have chi := hhi.below lhi oc.2; obtain ⟨hi0, hi1⟩ := chi.duo; clear chi; (try clear PA0 PA1 PA2 PA3); have cPA := hPA.below lPA oc.2; obtain ⟨PA0, PA1, PA2, PA3⟩ := cPA.quad; clear cPA; (try clear PB0 PB1 PB2 PB3); have cPB := hPB.below lPB oc.2; obtain ⟨PB0, PB1, PB2, PB3⟩ := cPB.quad; clear cPB; (try clear PU0 PU1 PU2 PU3); have cPU := hPU.below lPU oc.2; obtain ⟨PU0, PU1, PU2, PU3⟩ := cPU.quad; clear cPU))
    obtain ⟨hJ, zJ, tJ⟩ := run_new w2 0 1 0 5 _ rfl
    generalize (w2.alloc (Obj.cells #[Value.int IntKind.i8 0, Value.int IntKind.i64 1, Value.int IntKind.i8 0, Value.int IntKind.i64 5] 26)) = V5 at *
    have dloJ : glo ≠ w2.heap.size := Nat.ne_of_lt (Nat.lt_of_lt_of_le llo oc.2.size)
    have dhiJ : ghi ≠ w2.heap.size := Nat.ne_of_lt (Nat.lt_of_lt_of_le lhi oc.2.size)
    have dPAJ : gPA ≠ w2.heap.size := Nat.ne_of_lt (Nat.lt_of_lt_of_le lPA oc.2.size)
    have dPBJ : gPB ≠ w2.heap.size := Nat.ne_of_lt (Nat.lt_of_lt_of_le lPB oc.2.size)
    have dPUJ : gPU ≠ w2.heap.size := Nat.ne_of_lt (Nat.lt_of_lt_of_le lPU oc.2.size)
    have eJ : w.heap.size ≤ w2.heap.size := (oo.step oc.2).2.size
    have lJ : w2.heap.size < V5.heap.size := by omega
    have ocY := oc.step tJ
    have hlo' := hlo.below llo ocY.2
    have llo' := Nat.lt_of_lt_of_le llo ocY.2.size
    have hhi' := hhi.below lhi ocY.2
    have lhi' := Nat.lt_of_lt_of_le lhi ocY.2.size
    have hPA' := hPA.below lPA ocY.2
    have lPA' := Nat.lt_of_lt_of_le lPA ocY.2.size
    have hPB' := hPB.below lPB ocY.2
    have lPB' := Nat.lt_of_lt_of_le lPB ocY.2.size
    have hPU' := hPU.below lPU ocY.2
    have lPU' := Nat.lt_of_lt_of_le lPU ocY.2.size
    (try clear lo0 lo1 hi0 hi1 PA0 PA1 PA2 PA3 PB0 PB1 PB2 PB3 PU0 PU1 PU2 PU3)
    have oo' := oo.step ocY.2
    clear ocY oo oc hlo llo hhi lhi hPA lPA hPB lPB hPU lPU
    have hlo := hlo'
    have llo := llo'
    clear hlo' llo'
    have hhi := hhi'
    have lhi := lhi'
    clear hhi' lhi'
    have hPA := hPA'
    have lPA := lPA'
    clear hPA' lPA'
    have hPB := hPB'
    have lPB := lPB'
    clear hPB' lPB'
    have hPU := hPU'
    have lPU := lPU'
    clear hPU' lPU'
    have oo := oo'
    clear oo'
    have oc := Ok.refl oo.1
    clear tJ zJ
    generalize w2.heap.size = gJ at *
    clear J1
    obtain ⟨lo0, lo1⟩ := (id hlo).duo
    obtain ⟨hi0, hi1⟩ := (id hhi).duo
    obtain ⟨PA0, PA1, PA2, PA3⟩ := (id hPA).quad
    obtain ⟨PB0, PB1, PB2, PB3⟩ := (id hPB).quad
    obtain ⟨PU0, PU1, PU2, PU3⟩ := (id hPU).quad
    obtain ⟨J0, J1, J2, J3⟩ := (id hJ).quad; have yJ0 := (id hJ).frozen 0; have yJ1 := (id hJ).frozen 1; have yJ2 := (id hJ).frozen 2; have yJ3 := (id hJ).frozen 3
    go_cut [8, 9] (fun v8 v9 wx => ∃ gQ, v8 = .pointer (some ⟨gQ, 0, none⟩) ∧ v9 = .bool true ∧ (BkU wx gQ 0 3 0 3 ∧ gQ < wx.heap.size ∧ V5.heap.size ≤ gQ) ∧ Ok V5 wx)
    case first =>
      (try clear lo0 lo1 hi0 hi1 PA0 PA1 PA2 PA3 PB0 PB1 PB2 PB3 PU0 PU1 PU2 PU3 J0 J1 J2 J3 yJ0 yJ1 yJ2 yJ3)
      have HF := Lib.hid (fun X (h : Ok V5 X) => And.intro (hPA.below lPA h.2).quad (trivial))
      refine wp_region_G (S := (Ok V5)) (by kernel_rfl) growsB (oc.step (by go_grown)) ?_
      refine tG (i := 0) (o := ?or6n0) (v := ?vr6n0) growsB ?ir6n0 (by kernel_rfl) ?qr6n0 ?yr6n0 ?rr6n0
      case ir6n0 => (simp only [gA, gZ]; rfl)
      case qr6n0 => exact fun _ _ _ h => h
      case yr6n0 => exact .inl ⟨by rfl, by (intro w hSw; obtain ⟨⟨PA0, PA1, PA2, PA3⟩, -⟩ := HF.out w hSw; go_simp; try with_reducible rfl)⟩
      (try simp only [Act.put, pA, pZ, pS])
      refine cG (i := 1) (o := ?or6n1) growsB ?ir6n1 (by kernel_rfl) ?qr6n1 ?wr6n1 ?er6n1 (fun X hX => callO DT39.out hX) ?rr6n1
      case ir6n1 => (simp only [gA, gS, gZ]; rfl)
      case qr6n1 => exact fun _ _ _ h => h
      case wr6n1 => rfl
      case er6n1 => (intro w; go_simp; try with_reducible rfl)
      (try simp only [Act.put, pA, pZ, pS])
      refine cG (i := 2) (o := ?or6n2) growsB ?ir6n2 (by kernel_rfl) ?qr6n2 ?wr6n2 ?er6n2 (fun X hX => callO CT.out hX) ?rr6n2
      case ir6n2 => (simp only [gA, gS, gZ]; rfl)
      case qr6n2 => exact fun _ _ _ h => h
      case wr6n2 => rfl
      case er6n2 => (intro w; go_simp; try with_reducible rfl)
      (try simp only [Act.put, pA, pZ, pS])
      refine tG (i := 3) (o := ?or6n3) (v := ?vr6n3) growsB ?ir6n3 (by kernel_rfl) ?qr6n3 ?yr6n3 ?rr6n3
      case ir6n3 => (simp only [gA, gS, gZ]; rfl)
      case qr6n3 => exact fun _ _ _ h => h
      case yr6n3 => exact .inl ⟨by rfl, by (intro w hSw; obtain ⟨⟨PA0, PA1, PA2, PA3⟩, -⟩ := HF.out w hSw; go_simp; try with_reducible rfl)⟩
      (try simp only [Act.put, pA, pZ, pS])
      refine tG (i := 4) (o := ?or6n4) (v := ?vr6n4) growsB ?ir6n4 (by kernel_rfl) ?qr6n4 ?yr6n4 ?rr6n4
      case ir6n4 => (simp only [gA, gS, gZ]; rfl)
      case qr6n4 => exact fun _ _ _ h => h
      case yr6n4 => exact .inl ⟨by rfl, by (intro w hSw; obtain ⟨⟨PA0, PA1, PA2, PA3⟩, -⟩ := HF.out w hSw; go_simp; try with_reducible rfl)⟩
      (try simp only [Act.put, pA, pZ, pS])
      refine tG (i := 5) (o := ?or6n5) (v := ?vr6n5) growsB ?ir6n5 (by kernel_rfl) ?qr6n5 ?yr6n5 ?rr6n5
      case ir6n5 => (simp only [gA, gS, gZ]; rfl)
      case qr6n5 => exact fun _ _ _ h => h
      case yr6n5 => exact .inl ⟨by rfl, by (intro w hSw; obtain ⟨⟨PA0, PA1, PA2, PA3⟩, -⟩ := HF.out w hSw; go_simp; try with_reducible rfl)⟩
      (try simp only [Act.put, pA, pZ, pS])
      refine wpAnyG_ready (rs := [6]) (by kernel_rfl) (by simp) ?_
      (try clear hX)
      intro w9 hX hT
      refine AllReadyG.cons (o := ?oir6n6) ?hor6n6 ?hKr6n6 AllReadyG.nil
      case hor6n6 => (simp only [List.getElem?_toArray, List.getElem?_cons_succ, List.getElem?_cons_zero]; rfl)
      intro KK hKK
      obtain ⟨nQ, zQ, tQ⟩ := run_new w9 0 0 0 0 _ rfl
      have hO2 := hX.step tQ
      have lQ : w9.heap.size < (w9.alloc (Obj.cells #[Value.int IntKind.i8 0, Value.int IntKind.i64 0, Value.int IntKind.i8 0, Value.int IntKind.i64 0] 26)).heap.size := by omega
      have bQ : V5.heap.size ≤ w9.heap.size := hX.2.size
      go_simp
      refine hKK.out _ _ hO2 (fun _ => ?_)
      clear hX hT hO2 zQ tQ
      generalize (w9.alloc (Obj.cells #[Value.int IntKind.i8 0, Value.int IntKind.i64 0, Value.int IntKind.i8 0, Value.int IntKind.i64 0] 26)) = Y6 at *
      generalize w9.heap.size = gQ at *
      clear hKK KK
      (try simp only [Act.put, List.setIfInBounds_toArray, List.set_cons_zero, List.set_cons_succ])
      refine wpAnyG_ready (rs := [7]) (by kernel_rfl) (by simp) ?_
      (try clear hX)
      intro w9 hX hT
      refine AllReadyG.cons (o := ?oir6n7) ?hor6n7 ?hKr6n7 AllReadyG.nil
      case hor6n7 => (simp only [List.getElem?_toArray, List.getElem?_cons_succ, List.getElem?_cons_zero]; rfl)
      intro KK hKK
      have nQ' := nQ.below lQ hT
      have lQ' := Nat.lt_of_lt_of_le lQ hT.size
      obtain ⟨u0, u1, u2, u3⟩ := nQ'.quad
      have y0 := nQ'.frozen 0
      have y1 := nQ'.frozen 1
      have y2 := nQ'.frozen 2
      have y3 := nQ'.frozen 3
      have hO2 := hX.set4 bQ 0 3 0 3
      have nQ2 := nQ'.store 0 3 0 3
      have lQ2 : gQ < (set4 w9 gQ 0 3 0 3).heap.size := by rw [size_set4]; exact lQ'
      go_simp
      change KK _ (set4 w9 gQ 0 3 0 3)
      refine hKK.out _ _ hO2 (fun _ => ?_)
      clear hX hT hO2 u0 u1 u2 u3 y0 y1 y2 y3 nQ lQ nQ' lQ'
      generalize set4 w9 gQ 0 3 0 3 = Y7 at *
      clear hKK KK
      (try simp only [Act.put, List.setIfInBounds_toArray, List.set_cons_zero, List.set_cons_succ])
      refine tG (i := 8) (o := ?or6n8) (v := ?vr6n8) growsB ?ir6n8 (by kernel_rfl) ?qr6n8 ?yr6n8 ?rr6n8
      case ir6n8 => (simp only [gA, gS, gZ]; rfl)
      case qr6n8 => exact fun _ _ _ h => h
      case yr6n8 => exact .inl ⟨by rfl, by (intro w hSw; obtain ⟨⟨PA0, PA1, PA2, PA3⟩, -⟩ := HF.out w hSw; go_simp; try with_reducible rfl)⟩
      (try simp only [Act.put, pA, pZ, pS])
      refine wpAnyG_done (by kernel_rfl) ?_ _
      (try clear hX)
      intro w10 hX hT
      clear HF
      go_wp2_with fail
      go_meet
      exact ⟨gQ, rfl, rfl, ⟨nQ2.below lQ2 hT, Nat.lt_of_lt_of_le lQ2 hT.size, bQ⟩, hX⟩
    case rest =>
      obtain ⟨gQ, rfl, rfl, ⟨nQ, kQ, eQ0⟩, ow⟩ := hcut
      clear oc DT39 CT
      have eQ : w.heap.size ≤ gQ := Nat.le_trans oo.2.size eQ0
      have dloQ : glo ≠ gQ := Nat.ne_of_lt (Nat.lt_of_lt_of_le llo eQ0)
      have dhiQ : ghi ≠ gQ := Nat.ne_of_lt (Nat.lt_of_lt_of_le lhi eQ0)
      have dPAQ : gPA ≠ gQ := Nat.ne_of_lt (Nat.lt_of_lt_of_le lPA eQ0)
      have dPBQ : gPB ≠ gQ := Nat.ne_of_lt (Nat.lt_of_lt_of_le lPB eQ0)
      have dPUQ : gPU ≠ gQ := Nat.ne_of_lt (Nat.lt_of_lt_of_le lPU eQ0)
      have dJQ : gJ ≠ gQ := Nat.ne_of_lt (Nat.lt_of_lt_of_le lJ eQ0)
      generalize wc = V6 at *
      have oc := ow
      clear ow eQ0
      have ocY := oc
      have hlo' := hlo.below llo ocY.2
      have llo' := Nat.lt_of_lt_of_le llo ocY.2.size
      have hhi' := hhi.below lhi ocY.2
      have lhi' := Nat.lt_of_lt_of_le lhi ocY.2.size
      have hPA' := hPA.below lPA ocY.2
      have lPA' := Nat.lt_of_lt_of_le lPA ocY.2.size
      have hPB' := hPB.below lPB ocY.2
      have lPB' := Nat.lt_of_lt_of_le lPB ocY.2.size
      have hPU' := hPU.below lPU ocY.2
      have lPU' := Nat.lt_of_lt_of_le lPU ocY.2.size
      have hJ' := hJ.below lJ ocY.2
      have lJ' := Nat.lt_of_lt_of_le lJ ocY.2.size
      (try clear lo0 lo1 hi0 hi1 PA0 PA1 PA2 PA3 PB0 PB1 PB2 PB3 PU0 PU1 PU2 PU3 J0 J1 J2 J3 yJ0 yJ1 yJ2 yJ3)
      have oo' := oo.step ocY.2
      clear ocY oo oc hlo llo hhi lhi hPA lPA hPB lPB hPU lPU hJ lJ
      have hlo := hlo'
      have llo := llo'
      clear hlo' llo'
      have hhi := hhi'
      have lhi := lhi'
      clear hhi' lhi'
      have hPA := hPA'
      have lPA := lPA'
      clear hPA' lPA'
      have hPB := hPB'
      have lPB := lPB'
      clear hPB' lPB'
      have hPU := hPU'
      have lPU := lPU'
      clear hPU' lPU'
      have hJ := hJ'
      have lJ := lJ'
      clear hJ' lJ'
      have oo := oo'
      clear oo'
      have oc := Ok.refl oo.1
      have hQ := nQ
      have lQ := kQ
      clear nQ kQ
      obtain ⟨lo0, lo1⟩ := (id hlo).duo
      obtain ⟨hi0, hi1⟩ := (id hhi).duo
      obtain ⟨PA0, PA1, PA2, PA3⟩ := (id hPA).quad
      obtain ⟨PB0, PB1, PB2, PB3⟩ := (id hPB).quad
      obtain ⟨PU0, PU1, PU2, PU3⟩ := (id hPU).quad
      obtain ⟨J0, J1, J2, J3⟩ := (id hJ).quad; have yJ0 := (id hJ).frozen 0; have yJ1 := (id hJ).frozen 1; have yJ2 := (id hJ).frozen 2; have yJ3 := (id hJ).frozen 3
      obtain ⟨Q0, Q1, Q2, Q3⟩ := (id hQ).quad; have yQ0 := (id hQ).frozen 0; have yQ1 := (id hQ).frozen 1; have yQ2 := (id hQ).frozen 2; have yQ3 := (id hQ).frozen 3
      go_upto_region 8 with (go_at_call 14; ((with_reducible refine (C2.out _ _ (oc.step (by go_grown))).mono ?_); rintro e1 w2 ⟨rfl, hk⟩; (try clear oc); have oc := hk; clear hk; (try clear lo0 lo1); have clo := hlo.below llo oc.2; obtain ⟨lo0, lo1⟩ := clo.duo; clear clo; (try clear hi0 hi1); have chi := hhi.below lhi oc.2; obtain ⟨hi0, hi1⟩ := chi.duo; clear chi; (try clear PA0 PA1 PA2 PA3); have cPA := hPA.below lPA oc.2; obtain ⟨PA0, PA1, PA2, PA3⟩ := cPA.quad; clear cPA; (try clear PB0 PB1 PB2 PB3); have cPB := hPB.below lPB oc.2; obtain ⟨PB0, PB1, PB2, PB3⟩ := cPB.quad; clear cPB; (try clear PU0 PU1 PU2 PU3); have cPU := hPU.below lPU oc.2; obtain ⟨PU0, PU1, PU2, PU3⟩ := cPU.quad; clear cPU; (try clear J0 J1 J2 J3 yJ0 yJ1 yJ2 yJ3); have cJ := hJ.below lJ oc.2; obtain ⟨J0, J1, J2, J3⟩ := cJ.quad; have yJ0 := cJ.frozen 0; have yJ1 := cJ.frozen 1; have yJ2 := cJ.frozen 2; have yJ3 := cJ.frozen 3; clear cJ; (try clear Q0 Q1 Q2 Q3 yQ0 yQ1 yQ2 yQ3); have cQ := hQ.below lQ oc.2; obtain ⟨Q0, Q1, Q2, Q3⟩ := cQ.quad; have yQ0 := cQ.frozen 0; have yQ1 := cQ.frozen 1; have yQ2 := cQ.frozen 2; have yQ3 := cQ.frozen 3; clear cQ))
      obtain ⟨hPZ, zPZ, tPZ⟩ := run_new w2 0 0 0 0 _ rfl
      generalize (w2.alloc (Obj.cells #[Value.int IntKind.i8 0, Value.int IntKind.i64 0, Value.int IntKind.i8 0, Value.int IntKind.i64 0] 26)) = V7 at *
      have dJPZ : gJ ≠ w2.heap.size := Nat.ne_of_lt (Nat.lt_of_lt_of_le lJ oc.2.size)
      have dQPZ : gQ ≠ w2.heap.size := Nat.ne_of_lt (Nat.lt_of_lt_of_le lQ oc.2.size)
      have ePZ : w.heap.size ≤ w2.heap.size := (oo.step oc.2).2.size
      have lPZ : w2.heap.size < V7.heap.size := by omega
      have ocY := oc.step tPZ
      have hlo' := hlo.below llo ocY.2
      have llo' := Nat.lt_of_lt_of_le llo ocY.2.size
      have hhi' := hhi.below lhi ocY.2
      have lhi' := Nat.lt_of_lt_of_le lhi ocY.2.size
      have hPA' := hPA.below lPA ocY.2
      have lPA' := Nat.lt_of_lt_of_le lPA ocY.2.size
      have hPB' := hPB.below lPB ocY.2
      have lPB' := Nat.lt_of_lt_of_le lPB ocY.2.size
      have hPU' := hPU.below lPU ocY.2
      have lPU' := Nat.lt_of_lt_of_le lPU ocY.2.size
      have hJ' := hJ.below lJ ocY.2
      have lJ' := Nat.lt_of_lt_of_le lJ ocY.2.size
      have hQ' := hQ.below lQ ocY.2
      have lQ' := Nat.lt_of_lt_of_le lQ ocY.2.size
      (try clear lo0 lo1 hi0 hi1 PA0 PA1 PA2 PA3 PB0 PB1 PB2 PB3 PU0 PU1 PU2 PU3 J0 J1 J2 J3 yJ0 yJ1 yJ2 yJ3 Q0 Q1 Q2 Q3 yQ0 yQ1 yQ2 yQ3)
      have oo' := oo.step ocY.2
      clear ocY oo oc hlo llo hhi lhi hPA lPA hPB lPB hPU lPU hJ lJ hQ lQ
      have hlo := hlo'
      have llo := llo'
      clear hlo' llo'
      have hhi := hhi'
      have lhi := lhi'
      clear hhi' lhi'
      have hPA := hPA'
      have lPA := lPA'
      clear hPA' lPA'
      have hPB := hPB'
      have lPB := lPB'
      clear hPB' lPB'
      have hPU := hPU'
      have lPU := lPU'
      clear hPU' lPU'
      have hJ := hJ'
      have lJ := lJ'
      clear hJ' lJ'
      have hQ := hQ'
      have lQ := lQ'
      clear hQ' lQ'
      have oo := oo'
      clear oo'
      have oc := Ok.refl oo.1
      clear tPZ zPZ
      generalize w2.heap.size = gPZ at *
      clear C2
      obtain ⟨lo0, lo1⟩ := (id hlo).duo
      obtain ⟨hi0, hi1⟩ := (id hhi).duo
      obtain ⟨PA0, PA1, PA2, PA3⟩ := (id hPA).quad
      obtain ⟨PB0, PB1, PB2, PB3⟩ := (id hPB).quad
      obtain ⟨PU0, PU1, PU2, PU3⟩ := (id hPU).quad
      obtain ⟨J0, J1, J2, J3⟩ := (id hJ).quad; have yJ0 := (id hJ).frozen 0; have yJ1 := (id hJ).frozen 1; have yJ2 := (id hJ).frozen 2; have yJ3 := (id hJ).frozen 3
      obtain ⟨Q0, Q1, Q2, Q3⟩ := (id hQ).quad; have yQ0 := (id hQ).frozen 0; have yQ1 := (id hQ).frozen 1; have yQ2 := (id hQ).frozen 2; have yQ3 := (id hQ).frozen 3
      obtain ⟨PZ0, PZ1, PZ2, PZ3⟩ := (id hPZ).quad
      (try clear lo0 lo1 hi0 hi1 PA0 PA1 PA2 PA3 PB0 PB1 PB2 PB3 PU0 PU1 PU2 PU3 J0 J1 J2 J3 yJ0 yJ1 yJ2 yJ3 Q0 Q1 Q2 Q3 yQ0 yQ1 yQ2 yQ3 PZ0 PZ1 PZ2 PZ3)
      have HF := Lib.hid (fun X (h : Ok V7 X) => And.intro (hlo.below llo h.2).duo (And.intro (hhi.below lhi h.2).duo (And.intro (hPA.below lPA h.2).quad (And.intro (hPB.below lPB h.2).quad (And.intro (hPU.below lPU h.2).quad (And.intro (hJ.below lJ h.2).quad (And.intro (hQ.below lQ h.2).quad (And.intro (hPZ.below lPZ h.2).quad (trivial)))))))))
      refine wp_region_G (S := (Ok V7)) (by kernel_rfl) growsB (oc.step (by go_grown)) ?_
      refine tG (i := 0) (o := ?od2n0) (v := ?vd2n0) growsB ?id2n0 (by kernel_rfl) ?qd2n0 ?yd2n0 ?rd2n0
      case id2n0 => (simp only [gA, gZ]; rfl)
      case qd2n0 => exact fun _ _ _ h => h
      case yd2n0 => exact .inl ⟨by rfl, by (intro w hSw; obtain ⟨⟨lo0, lo1⟩, ⟨hi0, hi1⟩, ⟨PA0, PA1, PA2, PA3⟩, ⟨PB0, PB1, PB2, PB3⟩, ⟨PU0, PU1, PU2, PU3⟩, ⟨J0, J1, J2, J3⟩, ⟨Q0, Q1, Q2, Q3⟩, ⟨PZ0, PZ1, PZ2, PZ3⟩, -⟩ := HF.out w hSw; go_simp; try with_reducible rfl)⟩
      (try simp only [Act.put, pA, pZ, pS])
      refine tG (i := 1) (o := ?od2n1) (v := ?vd2n1) growsB ?id2n1 (by kernel_rfl) ?qd2n1 ?yd2n1 ?rd2n1
      case id2n1 => (simp only [gA, gS, gZ]; rfl)
      case qd2n1 => exact fun _ _ _ h => h
      case yd2n1 => exact .inl ⟨by rfl, by (intro w hSw; obtain ⟨⟨lo0, lo1⟩, ⟨hi0, hi1⟩, ⟨PA0, PA1, PA2, PA3⟩, ⟨PB0, PB1, PB2, PB3⟩, ⟨PU0, PU1, PU2, PU3⟩, ⟨J0, J1, J2, J3⟩, ⟨Q0, Q1, Q2, Q3⟩, ⟨PZ0, PZ1, PZ2, PZ3⟩, -⟩ := HF.out w hSw; go_simp; try with_reducible rfl)⟩
      (try simp only [Act.put, pA, pZ, pS])
      refine cG (i := 2) (o := ?od2n2) growsB ?id2n2 (by kernel_rfl) ?qd2n2 ?wd2n2 ?ed2n2 (fun X hX => callO D15.out hX) ?rd2n2
      case id2n2 => (simp only [gA, gS, gZ]; rfl)
      case qd2n2 => exact fun _ _ _ h => h
      case wd2n2 => rfl
      case ed2n2 => (intro w; go_simp; try with_reducible rfl)
      (try simp only [Act.put, pA, pZ, pS])
      refine cG (i := 3) (o := ?od2n3) growsB ?id2n3 (by kernel_rfl) ?qd2n3 ?wd2n3 ?ed2n3 (fun X hX => callO F1.out hX) ?rd2n3
      case id2n3 => (simp only [gA, gS, gZ]; rfl)
      case qd2n3 => exact fun _ _ _ h => h
      case wd2n3 => rfl
      case ed2n3 => (intro w; go_simp; try with_reducible rfl)
      (try simp only [Act.put, pA, pZ, pS])
      refine tG (i := 4) (o := ?od2n4) (v := ?vd2n4) growsB ?id2n4 (by kernel_rfl) ?qd2n4 ?yd2n4 ?rd2n4
      case id2n4 => (simp only [gA, gS, gZ]; rfl)
      case qd2n4 => exact fun _ _ _ h => h
      case yd2n4 => exact .inl ⟨by rfl, by (intro w hSw; obtain ⟨⟨lo0, lo1⟩, ⟨hi0, hi1⟩, ⟨PA0, PA1, PA2, PA3⟩, ⟨PB0, PB1, PB2, PB3⟩, ⟨PU0, PU1, PU2, PU3⟩, ⟨J0, J1, J2, J3⟩, ⟨Q0, Q1, Q2, Q3⟩, ⟨PZ0, PZ1, PZ2, PZ3⟩, -⟩ := HF.out w hSw; go_simp; try with_reducible rfl)⟩
      (try simp only [Act.put, pA, pZ, pS])
      refine tG (i := 5) (o := ?od2n5) (v := ?vd2n5) growsB ?id2n5 (by kernel_rfl) ?qd2n5 ?yd2n5 ?rd2n5
      case id2n5 => (simp only [gA, gS, gZ]; rfl)
      case qd2n5 => exact fun _ _ _ h => h
      case yd2n5 => exact .inl ⟨by rfl, by (intro w hSw; obtain ⟨⟨lo0, lo1⟩, ⟨hi0, hi1⟩, ⟨PA0, PA1, PA2, PA3⟩, ⟨PB0, PB1, PB2, PB3⟩, ⟨PU0, PU1, PU2, PU3⟩, ⟨J0, J1, J2, J3⟩, ⟨Q0, Q1, Q2, Q3⟩, ⟨PZ0, PZ1, PZ2, PZ3⟩, -⟩ := HF.out w hSw; go_simp; try with_reducible rfl)⟩
      (try simp only [Act.put, pA, pZ, pS])
      refine tG (i := 6) (o := ?od2n6) (v := ?vd2n6) growsB ?id2n6 (by kernel_rfl) ?qd2n6 ?yd2n6 ?rd2n6
      case id2n6 => (simp only [gA, gS, gZ]; rfl)
      case qd2n6 => exact fun _ _ _ h => h
      case yd2n6 => exact .inl ⟨by rfl, by (intro w hSw; obtain ⟨⟨lo0, lo1⟩, ⟨hi0, hi1⟩, ⟨PA0, PA1, PA2, PA3⟩, ⟨PB0, PB1, PB2, PB3⟩, ⟨PU0, PU1, PU2, PU3⟩, ⟨J0, J1, J2, J3⟩, ⟨Q0, Q1, Q2, Q3⟩, ⟨PZ0, PZ1, PZ2, PZ3⟩, -⟩ := HF.out w hSw; go_simp; try with_reducible rfl)⟩
      (try simp only [Act.put, pA, pZ, pS])
      refine tG (i := 7) (o := ?od2n7) (v := ?vd2n7) growsB ?id2n7 (by kernel_rfl) ?qd2n7 ?yd2n7 ?rd2n7
      case id2n7 => (simp only [gA, gS, gZ]; rfl)
      case qd2n7 => exact fun _ _ _ h => h
      case yd2n7 => exact .inl ⟨by rfl, by (intro w hSw; obtain ⟨⟨lo0, lo1⟩, ⟨hi0, hi1⟩, ⟨PA0, PA1, PA2, PA3⟩, ⟨PB0, PB1, PB2, PB3⟩, ⟨PU0, PU1, PU2, PU3⟩, ⟨J0, J1, J2, J3⟩, ⟨Q0, Q1, Q2, Q3⟩, ⟨PZ0, PZ1, PZ2, PZ3⟩, -⟩ := HF.out w hSw; go_simp; try with_reducible rfl)⟩
      (try simp only [Act.put, pA, pZ, pS])
      refine cG (i := 8) (o := ?od2n8) growsB ?id2n8 (by kernel_rfl) ?qd2n8 ?wd2n8 ?ed2n8 (fun X hX => callO D33.out hX) ?rd2n8
      case id2n8 => (simp only [gA, gS, gZ]; rfl)
      case qd2n8 => exact fun _ _ _ h => h
      case wd2n8 => rfl
      case ed2n8 => (intro w; go_simp; try with_reducible rfl)
      (try simp only [Act.put, pA, pZ, pS])
      refine cG (i := 9) (o := ?od2n9) growsB ?id2n9 (by kernel_rfl) ?qd2n9 ?wd2n9 ?ed2n9 (fun X hX => callO F2.out hX) ?rd2n9
      case id2n9 => (simp only [gA, gS, gZ]; rfl)
      case qd2n9 => exact fun _ _ _ h => h
      case wd2n9 => rfl
      case ed2n9 => (intro w; go_simp; try with_reducible rfl)
      (try simp only [Act.put, pA, pZ, pS])
      refine tG (i := 10) (o := ?od2n10) (v := ?vd2n10) growsB ?id2n10 (by kernel_rfl) ?qd2n10 ?yd2n10 ?rd2n10
      case id2n10 => (simp only [gA, gS, gZ]; rfl)
      case qd2n10 => exact fun _ _ _ h => h
      case yd2n10 => exact .inl ⟨by rfl, by (intro w hSw; obtain ⟨⟨lo0, lo1⟩, ⟨hi0, hi1⟩, ⟨PA0, PA1, PA2, PA3⟩, ⟨PB0, PB1, PB2, PB3⟩, ⟨PU0, PU1, PU2, PU3⟩, ⟨J0, J1, J2, J3⟩, ⟨Q0, Q1, Q2, Q3⟩, ⟨PZ0, PZ1, PZ2, PZ3⟩, -⟩ := HF.out w hSw; go_simp; try with_reducible rfl)⟩
      (try simp only [Act.put, pA, pZ, pS])
      refine tG (i := 11) (o := ?od2n11) (v := ?vd2n11) growsB ?id2n11 (by kernel_rfl) ?qd2n11 ?yd2n11 ?rd2n11
      case id2n11 => (simp only [gA, gS, gZ]; rfl)
      case qd2n11 => exact fun _ _ _ h => h
      case yd2n11 => exact .inl ⟨by rfl, by (intro w hSw; obtain ⟨⟨lo0, lo1⟩, ⟨hi0, hi1⟩, ⟨PA0, PA1, PA2, PA3⟩, ⟨PB0, PB1, PB2, PB3⟩, ⟨PU0, PU1, PU2, PU3⟩, ⟨J0, J1, J2, J3⟩, ⟨Q0, Q1, Q2, Q3⟩, ⟨PZ0, PZ1, PZ2, PZ3⟩, -⟩ := HF.out w hSw; go_simp; try with_reducible rfl)⟩
      (try simp only [Act.put, pA, pZ, pS])
      refine tG (i := 12) (o := ?od2n12) (v := ?vd2n12) growsB ?id2n12 (by kernel_rfl) ?qd2n12 ?yd2n12 ?rd2n12
      case id2n12 => (simp only [gA, gS, gZ]; rfl)
      case qd2n12 => exact fun _ _ _ h => h
      case yd2n12 => exact .inl ⟨by rfl, by (intro w hSw; obtain ⟨⟨lo0, lo1⟩, ⟨hi0, hi1⟩, ⟨PA0, PA1, PA2, PA3⟩, ⟨PB0, PB1, PB2, PB3⟩, ⟨PU0, PU1, PU2, PU3⟩, ⟨J0, J1, J2, J3⟩, ⟨Q0, Q1, Q2, Q3⟩, ⟨PZ0, PZ1, PZ2, PZ3⟩, -⟩ := HF.out w hSw; go_simp; try with_reducible rfl)⟩
      (try simp only [Act.put, pA, pZ, pS])
      refine tG (i := 13) (o := ?od2n13) (v := ?vd2n13) growsB ?id2n13 (by kernel_rfl) ?qd2n13 ?yd2n13 ?rd2n13
      case id2n13 => (simp only [gA, gS, gZ]; rfl)
      case qd2n13 => exact fun _ _ _ h => h
      case yd2n13 => exact .inl ⟨by rfl, by (intro w hSw; obtain ⟨⟨lo0, lo1⟩, ⟨hi0, hi1⟩, ⟨PA0, PA1, PA2, PA3⟩, ⟨PB0, PB1, PB2, PB3⟩, ⟨PU0, PU1, PU2, PU3⟩, ⟨J0, J1, J2, J3⟩, ⟨Q0, Q1, Q2, Q3⟩, ⟨PZ0, PZ1, PZ2, PZ3⟩, -⟩ := HF.out w hSw; go_simp; try with_reducible rfl)⟩
      (try simp only [Act.put, pA, pZ, pS])
      refine tG (i := 14) (o := ?od2n14) (v := ?vd2n14) growsB ?id2n14 (by kernel_rfl) ?qd2n14 ?yd2n14 ?rd2n14
      case id2n14 => (simp only [gA, gS, gZ]; rfl)
      case qd2n14 => exact fun _ _ _ h => h
      case yd2n14 => exact .inl ⟨by rfl, by (intro w hSw; obtain ⟨⟨lo0, lo1⟩, ⟨hi0, hi1⟩, ⟨PA0, PA1, PA2, PA3⟩, ⟨PB0, PB1, PB2, PB3⟩, ⟨PU0, PU1, PU2, PU3⟩, ⟨J0, J1, J2, J3⟩, ⟨Q0, Q1, Q2, Q3⟩, ⟨PZ0, PZ1, PZ2, PZ3⟩, -⟩ := HF.out w hSw; go_simp; try with_reducible rfl)⟩
      (try simp only [Act.put, pA, pZ, pS])
      refine tG (i := 15) (o := ?od2n15) (v := ?vd2n15) growsB ?id2n15 (by kernel_rfl) ?qd2n15 ?yd2n15 ?rd2n15
      case id2n15 => (simp only [gA, gS, gZ]; rfl)
      case qd2n15 => exact fun _ _ _ h => h
      case yd2n15 => exact .inl ⟨by rfl, by (intro w hSw; obtain ⟨⟨lo0, lo1⟩, ⟨hi0, hi1⟩, ⟨PA0, PA1, PA2, PA3⟩, ⟨PB0, PB1, PB2, PB3⟩, ⟨PU0, PU1, PU2, PU3⟩, ⟨J0, J1, J2, J3⟩, ⟨Q0, Q1, Q2, Q3⟩, ⟨PZ0, PZ1, PZ2, PZ3⟩, -⟩ := HF.out w hSw; go_simp; try with_reducible rfl)⟩
      (try simp only [Act.put, pA, pZ, pS])
      refine cG (i := 16) (o := ?od2n16) growsB ?id2n16 (by kernel_rfl) ?qd2n16 ?wd2n16 ?ed2n16 (fun X hX => callO F3.out hX) ?rd2n16
      case id2n16 => (simp only [gA, gS, gZ]; rfl)
      case qd2n16 => exact fun _ _ _ h => h
      case wd2n16 => rfl
      case ed2n16 => (intro w; go_simp; try with_reducible rfl)
      (try simp only [Act.put, pA, pZ, pS])
      refine tG (i := 17) (o := ?od2n17) (v := ?vd2n17) growsB ?id2n17 (by kernel_rfl) ?qd2n17 ?yd2n17 ?rd2n17
      case id2n17 => (simp only [gA, gS, gZ]; rfl)
      case qd2n17 => exact fun _ _ _ h => h
      case yd2n17 => exact .inl ⟨by rfl, by (intro w hSw; obtain ⟨⟨lo0, lo1⟩, ⟨hi0, hi1⟩, ⟨PA0, PA1, PA2, PA3⟩, ⟨PB0, PB1, PB2, PB3⟩, ⟨PU0, PU1, PU2, PU3⟩, ⟨J0, J1, J2, J3⟩, ⟨Q0, Q1, Q2, Q3⟩, ⟨PZ0, PZ1, PZ2, PZ3⟩, -⟩ := HF.out w hSw; go_simp; try with_reducible rfl)⟩
      (try simp only [Act.put, pA, pZ, pS])
      refine tG (i := 18) (o := ?od2n18) (v := ?vd2n18) growsB ?id2n18 (by kernel_rfl) ?qd2n18 ?yd2n18 ?rd2n18
      case id2n18 => (simp only [gA, gS, gZ]; rfl)
      case qd2n18 => exact fun _ _ _ h => h
      case yd2n18 => exact .inl ⟨by rfl, by (intro w hSw; obtain ⟨⟨lo0, lo1⟩, ⟨hi0, hi1⟩, ⟨PA0, PA1, PA2, PA3⟩, ⟨PB0, PB1, PB2, PB3⟩, ⟨PU0, PU1, PU2, PU3⟩, ⟨J0, J1, J2, J3⟩, ⟨Q0, Q1, Q2, Q3⟩, ⟨PZ0, PZ1, PZ2, PZ3⟩, -⟩ := HF.out w hSw; go_simp; try with_reducible rfl)⟩
      (try simp only [Act.put, pA, pZ, pS])
      refine wpAnyG_done (by kernel_rfl) ?_ _
      (try clear hX)
      intro w9 hX hT
      clear HF
      have oc := hX
      clear hX hT
      generalize w9 = V8 at *
      have ocY := oc
      have hlo' := hlo.below llo ocY.2
      have llo' := Nat.lt_of_lt_of_le llo ocY.2.size
      have hhi' := hhi.below lhi ocY.2
      have lhi' := Nat.lt_of_lt_of_le lhi ocY.2.size
      have hPA' := hPA.below lPA ocY.2
      have lPA' := Nat.lt_of_lt_of_le lPA ocY.2.size
      have hPB' := hPB.below lPB ocY.2
      have lPB' := Nat.lt_of_lt_of_le lPB ocY.2.size
      have hPU' := hPU.below lPU ocY.2
      have lPU' := Nat.lt_of_lt_of_le lPU ocY.2.size
      have hJ' := hJ.below lJ ocY.2
      have lJ' := Nat.lt_of_lt_of_le lJ ocY.2.size
      have hQ' := hQ.below lQ ocY.2
      have lQ' := Nat.lt_of_lt_of_le lQ ocY.2.size
      have hPZ' := hPZ.below lPZ ocY.2
      have lPZ' := Nat.lt_of_lt_of_le lPZ ocY.2.size
      (try clear lo0 lo1 hi0 hi1 PA0 PA1 PA2 PA3 PB0 PB1 PB2 PB3 PU0 PU1 PU2 PU3 J0 J1 J2 J3 yJ0 yJ1 yJ2 yJ3 Q0 Q1 Q2 Q3 yQ0 yQ1 yQ2 yQ3 PZ0 PZ1 PZ2 PZ3)
      have oo' := oo.step ocY.2
      clear ocY oo oc hlo llo hhi lhi hPA lPA hPB lPB hPU lPU hJ lJ hQ lQ hPZ lPZ
      have hlo := hlo'
      have llo := llo'
      clear hlo' llo'
      have hhi := hhi'
      have lhi := lhi'
      clear hhi' lhi'
      have hPA := hPA'
      have lPA := lPA'
      clear hPA' lPA'
      have hPB := hPB'
      have lPB := lPB'
      clear hPB' lPB'
      have hPU := hPU'
      have lPU := lPU'
      clear hPU' lPU'
      have hJ := hJ'
      have lJ := lJ'
      clear hJ' lJ'
      have hQ := hQ'
      have lQ := lQ'
      clear hQ' lQ'
      have hPZ := hPZ'
      have lPZ := lPZ'
      clear hPZ' lPZ'
      have oo := oo'
      clear oo'
      have oc := Ok.refl oo.1
      obtain ⟨lo0, lo1⟩ := (id hlo).duo
      obtain ⟨hi0, hi1⟩ := (id hhi).duo
      obtain ⟨PA0, PA1, PA2, PA3⟩ := (id hPA).quad
      obtain ⟨PB0, PB1, PB2, PB3⟩ := (id hPB).quad
      obtain ⟨PU0, PU1, PU2, PU3⟩ := (id hPU).quad
      obtain ⟨J0, J1, J2, J3⟩ := (id hJ).quad; have yJ0 := (id hJ).frozen 0; have yJ1 := (id hJ).frozen 1; have yJ2 := (id hJ).frozen 2; have yJ3 := (id hJ).frozen 3
      obtain ⟨Q0, Q1, Q2, Q3⟩ := (id hQ).quad; have yQ0 := (id hQ).frozen 0; have yQ1 := (id hQ).frozen 1; have yQ2 := (id hQ).frozen 2; have yQ3 := (id hQ).frozen 3
      obtain ⟨PZ0, PZ1, PZ2, PZ3⟩ := (id hPZ).quad
      clear D15 D33 F1 F2 F3
      go_upto_region 15 with (first
              | (go_at_call 28; ((with_reducible refine (D35.out _ _ (oc.step (by go_grown))).mono ?_); rintro e1 w2 ⟨rfl, hk⟩; (try clear oc); have oc := hk; clear hk; (try clear lo0 lo1); have clo := hlo.below llo oc.2; obtain ⟨lo0, lo1⟩ := clo.duo; clear clo; (try clear hi0 hi1); have chi := hhi.below lhi oc.2; obtain ⟨hi0, hi1⟩ := chi.duo; clear chi; (try clear PA0 PA1 PA2 PA3); have cPA := hPA.below lPA oc.2; obtain ⟨PA0, PA1, PA2, PA3⟩ := cPA.quad; clear cPA; (try clear PB0 PB1 PB2 PB3); have cPB := hPB.below lPB oc.2; obtain ⟨PB0, PB1, PB2, PB3⟩ := cPB.quad; clear cPB; (try clear PU0 PU1 PU2 PU3); have cPU := hPU.below lPU oc.2; obtain ⟨PU0, PU1, PU2, PU3⟩ := cPU.quad; clear cPU; (try clear J0 J1 J2 J3 yJ0 yJ1 yJ2 yJ3); have cJ := hJ.below lJ oc.2; obtain ⟨J0, J1, J2, J3⟩ := cJ.quad; have yJ0 := cJ.frozen 0; have yJ1 := cJ.frozen 1; have yJ2 := cJ.frozen 2; have yJ3 := cJ.frozen 3; clear cJ; (try clear Q0 Q1 Q2 Q3 yQ0 yQ1 yQ2 yQ3); have cQ := hQ.below lQ oc.2; obtain ⟨Q0, Q1, Q2, Q3⟩ := cQ.quad; have yQ0 := cQ.frozen 0; have yQ1 := cQ.frozen 1; have yQ2 := cQ.frozen 2; have yQ3 := cQ.frozen 3; clear cQ; (try clear PZ0 PZ1 PZ2 PZ3); have cPZ := hPZ.below lPZ oc.2; obtain ⟨PZ0, PZ1, PZ2, PZ3⟩ := cPZ.quad; clear cPZ))
              | (go_at_call 24; ((with_reducible refine (L1.out _ _ (oc.step (by go_grown))).mono ?_); rintro e1 w2 ⟨rfl, hk⟩; (try clear oc); have oc := hk; clear hk; (try clear lo0 lo1); have clo := hlo.below llo oc.2; obtain ⟨lo0, lo1⟩ := clo.duo; clear clo; (try clear hi0 hi1); have chi := hhi.below lhi oc.2; obtain ⟨hi0, hi1⟩ := chi.duo; clear chi; (try clear PA0 PA1 PA2 PA3); have cPA := hPA.below lPA oc.2; obtain ⟨PA0, PA1, PA2, PA3⟩ := cPA.quad; clear cPA; (try clear PB0 PB1 PB2 PB3); have cPB := hPB.below lPB oc.2; obtain ⟨PB0, PB1, PB2, PB3⟩ := cPB.quad; clear cPB; (try clear PU0 PU1 PU2 PU3); have cPU := hPU.below lPU oc.2; obtain ⟨PU0, PU1, PU2, PU3⟩ := cPU.quad; clear cPU; (try clear J0 J1 J2 J3 yJ0 yJ1 yJ2 yJ3); have cJ := hJ.below lJ oc.2; obtain ⟨J0, J1, J2, J3⟩ := cJ.quad; have yJ0 := cJ.frozen 0; have yJ1 := cJ.frozen 1; have yJ2 := cJ.frozen 2; have yJ3 := cJ.frozen 3; clear cJ; (try clear Q0 Q1 Q2 Q3 yQ0 yQ1 yQ2 yQ3); have cQ := hQ.below lQ oc.2; obtain ⟨Q0, Q1, Q2, Q3⟩ := cQ.quad; have yQ0 := cQ.frozen 0; have yQ1 := cQ.frozen 1; have yQ2 := cQ.frozen 2; have yQ3 := cQ.frozen 3; clear cQ; (try clear PZ0 PZ1 PZ2 PZ3); have cPZ := hPZ.below lPZ oc.2; obtain ⟨PZ0, PZ1, PZ2, PZ3⟩ := cPZ.quad; clear cPZ))
              | (go_at_call 24; ((with_reducible refine (L2.out _ _ (oc.step (by go_grown))).mono ?_); rintro e1 w2 ⟨rfl, hk⟩; (try clear oc); have oc := hk; clear hk; (try clear lo0 lo1); have clo := hlo.below llo oc.2; obtain ⟨lo0, lo1⟩ := clo.duo; clear clo; (try clear hi0 hi1); have chi := hhi.below lhi oc.2; obtain ⟨hi0, hi1⟩ := chi.duo; clear chi; (try clear PA0 PA1 PA2 PA3); have cPA := hPA.below lPA oc.2; obtain ⟨PA0, PA1, PA2, PA3⟩ := cPA.quad; clear cPA; (try clear PB0 PB1 PB2 PB3); have cPB := hPB.below lPB oc.2; obtain ⟨PB0, PB1, PB2, PB3⟩ := cPB.quad; clear cPB; (try clear PU0 PU1 PU2 PU3); have cPU := hPU.below lPU oc.2; obtain ⟨PU0, PU1, PU2, PU3⟩ := cPU.quad; clear cPU; (try clear J0 J1 J2 J3 yJ0 yJ1 yJ2 yJ3); have cJ := hJ.below lJ oc.2; obtain ⟨J0, J1, J2, J3⟩ := cJ.quad; have yJ0 := cJ.frozen 0; have yJ1 := cJ.frozen 1; have yJ2 := cJ.frozen 2; have yJ3 := cJ.frozen 3; clear cJ; (try clear Q0 Q1 Q2 Q3 yQ0 yQ1 yQ2 yQ3); have cQ := hQ.below lQ oc.2; obtain ⟨Q0, Q1, Q2, Q3⟩ := cQ.quad; have yQ0 := cQ.frozen 0; have yQ1 := cQ.frozen 1; have yQ2 := cQ.frozen 2; have yQ3 := cQ.frozen 3; clear cQ; (try clear PZ0 PZ1 PZ2 PZ3); have cPZ := hPZ.below lPZ oc.2; obtain ⟨PZ0, PZ1, PZ2, PZ3⟩ := cPZ.quad; clear cPZ))
              | (go_at_call 28; ((with_reducible refine (DM.out _ _ (oc.step (by go_grown))).mono ?_); rintro e1 w2 ⟨rfl, hk⟩; (try clear oc); have oc := hk; clear hk; (try clear lo0 lo1); have clo := hlo.below llo oc.2; obtain ⟨lo0, lo1⟩ := clo.duo; clear clo; (try clear hi0 hi1); have chi := hhi.below lhi oc.2; obtain ⟨hi0, hi1⟩ := chi.duo; clear chi; (try clear PA0 PA1 PA2 PA3); have cPA := hPA.below lPA oc.2; obtain ⟨PA0, PA1, PA2, PA3⟩ := cPA.quad; clear cPA; (try clear PB0 PB1 PB2 PB3); have cPB := hPB.below lPB oc.2; obtain ⟨PB0, PB1, PB2, PB3⟩ := cPB.quad; clear cPB; (try clear PU0 PU1 PU2 PU3); have cPU := hPU.below lPU oc.2; obtain ⟨PU0, PU1, PU2, PU3⟩ := cPU.quad; clear cPU; (try clear J0 J1 J2 J3 yJ0 yJ1 yJ2 yJ3); have cJ := hJ.below lJ oc.2; obtain ⟨J0, J1, J2, J3⟩ := cJ.quad; have yJ0 := cJ.frozen 0; have yJ1 := cJ.frozen 1; have yJ2 := cJ.frozen 2; have yJ3 := cJ.frozen 3; clear cJ; (try clear Q0 Q1 Q2 Q3 yQ0 yQ1 yQ2 yQ3); have cQ := hQ.below lQ oc.2; obtain ⟨Q0, Q1, Q2, Q3⟩ := cQ.quad; have yQ0 := cQ.frozen 0; have yQ1 := cQ.frozen 1; have yQ2 := cQ.frozen 2; have yQ3 := cQ.frozen 3; clear cQ; (try clear PZ0 PZ1 PZ2 PZ3); have cPZ := hPZ.below lPZ oc.2; obtain ⟨PZ0, PZ1, PZ2, PZ3⟩ := cPZ.quad; clear cPZ))
              | (go_at_call 24; ((with_reducible refine (L3.out _ _ (oc.step (by go_grown))).mono ?_); rintro e1 w2 ⟨rfl, hk⟩; (try clear oc); have oc := hk; clear hk; (try clear lo0 lo1); have clo := hlo.below llo oc.2; obtain ⟨lo0, lo1⟩ := clo.duo; clear clo; (try clear hi0 hi1); have chi := hhi.below lhi oc.2; obtain ⟨hi0, hi1⟩ := chi.duo; clear chi; (try clear PA0 PA1 PA2 PA3); have cPA := hPA.below lPA oc.2; obtain ⟨PA0, PA1, PA2, PA3⟩ := cPA.quad; clear cPA; (try clear PB0 PB1 PB2 PB3); have cPB := hPB.below lPB oc.2; obtain ⟨PB0, PB1, PB2, PB3⟩ := cPB.quad; clear cPB; (try clear PU0 PU1 PU2 PU3); have cPU := hPU.below lPU oc.2; obtain ⟨PU0, PU1, PU2, PU3⟩ := cPU.quad; clear cPU; (try clear J0 J1 J2 J3 yJ0 yJ1 yJ2 yJ3); have cJ := hJ.below lJ oc.2; obtain ⟨J0, J1, J2, J3⟩ := cJ.quad; have yJ0 := cJ.frozen 0; have yJ1 := cJ.frozen 1; have yJ2 := cJ.frozen 2; have yJ3 := cJ.frozen 3; clear cJ; (try clear Q0 Q1 Q2 Q3 yQ0 yQ1 yQ2 yQ3); have cQ := hQ.below lQ oc.2; obtain ⟨Q0, Q1, Q2, Q3⟩ := cQ.quad; have yQ0 := cQ.frozen 0; have yQ1 := cQ.frozen 1; have yQ2 := cQ.frozen 2; have yQ3 := cQ.frozen 3; clear cQ; (try clear PZ0 PZ1 PZ2 PZ3); have cPZ := hPZ.below lPZ oc.2; obtain ⟨PZ0, PZ1, PZ2, PZ3⟩ := cPZ.quad; clear cPZ))
              | (go_at_call 21; ((with_reducible refine (H1.out _ _ (oc.step (by go_grown))).mono ?_); rintro e1 w2 ⟨rfl, hk⟩; (try clear oc); have oc := hk; clear hk; (try clear lo0 lo1); have clo := hlo.below llo oc.2; obtain ⟨lo0, lo1⟩ := clo.duo; clear clo; (try clear hi0 hi1); have chi := hhi.below lhi oc.2; obtain ⟨hi0, hi1⟩ := chi.duo; clear chi; (try clear PA0 PA1 PA2 PA3); have cPA := hPA.below lPA oc.2; obtain ⟨PA0, PA1, PA2, PA3⟩ := cPA.quad; clear cPA; (try clear PB0 PB1 PB2 PB3); have cPB := hPB.below lPB oc.2; obtain ⟨PB0, PB1, PB2, PB3⟩ := cPB.quad; clear cPB; (try clear PU0 PU1 PU2 PU3); have cPU := hPU.below lPU oc.2; obtain ⟨PU0, PU1, PU2, PU3⟩ := cPU.quad; clear cPU; (try clear J0 J1 J2 J3 yJ0 yJ1 yJ2 yJ3); have cJ := hJ.below lJ oc.2; obtain ⟨J0, J1, J2, J3⟩ := cJ.quad; have yJ0 := cJ.frozen 0; have yJ1 := cJ.frozen 1; have yJ2 := cJ.frozen 2; have yJ3 := cJ.frozen 3; clear cJ; (try clear Q0 Q1 Q2 Q3 yQ0 yQ1 yQ2 yQ3); have cQ := hQ.below lQ oc.2; obtain ⟨Q0, Q1, Q2, Q3⟩ := cQ.quad; have yQ0 := cQ.frozen 0; have yQ1 := cQ.frozen 1; have yQ2 := cQ.frozen 2; have yQ3 := cQ.frozen 3; clear cQ; (try clear PZ0 PZ1 PZ2 PZ3); have cPZ := hPZ.below lPZ oc.2; obtain ⟨PZ0, PZ1, PZ2, PZ3⟩ := cPZ.quad; clear cPZ)))
      generalize w2 = V9 at *
      have ocY := oc
      have hlo' := hlo.below llo ocY.2
      have llo' := Nat.lt_of_lt_of_le llo ocY.2.size
      have hhi' := hhi.below lhi ocY.2
      have lhi' := Nat.lt_of_lt_of_le lhi ocY.2.size
      have hPA' := hPA.below lPA ocY.2
      have lPA' := Nat.lt_of_lt_of_le lPA ocY.2.size
      have hPB' := hPB.below lPB ocY.2
      have lPB' := Nat.lt_of_lt_of_le lPB ocY.2.size
      have hPU' := hPU.below lPU ocY.2
      have lPU' := Nat.lt_of_lt_of_le lPU ocY.2.size
      have hJ' := hJ.below lJ ocY.2
      have lJ' := Nat.lt_of_lt_of_le lJ ocY.2.size
      have hQ' := hQ.below lQ ocY.2
      have lQ' := Nat.lt_of_lt_of_le lQ ocY.2.size
      have hPZ' := hPZ.below lPZ ocY.2
      have lPZ' := Nat.lt_of_lt_of_le lPZ ocY.2.size
      (try clear lo0 lo1 hi0 hi1 PA0 PA1 PA2 PA3 PB0 PB1 PB2 PB3 PU0 PU1 PU2 PU3 J0 J1 J2 J3 yJ0 yJ1 yJ2 yJ3 Q0 Q1 Q2 Q3 yQ0 yQ1 yQ2 yQ3 PZ0 PZ1 PZ2 PZ3)
      have oo' := oo.step ocY.2
      clear ocY oo oc hlo llo hhi lhi hPA lPA hPB lPB hPU lPU hJ lJ hQ lQ hPZ lPZ
      have hlo := hlo'
      have llo := llo'
      clear hlo' llo'
      have hhi := hhi'
      have lhi := lhi'
      clear hhi' lhi'
      have hPA := hPA'
      have lPA := lPA'
      clear hPA' lPA'
      have hPB := hPB'
      have lPB := lPB'
      clear hPB' lPB'
      have hPU := hPU'
      have lPU := lPU'
      clear hPU' lPU'
      have hJ := hJ'
      have lJ := lJ'
      clear hJ' lJ'
      have hQ := hQ'
      have lQ := lQ'
      clear hQ' lQ'
      have hPZ := hPZ'
      have lPZ := lPZ'
      clear hPZ' lPZ'
      have oo := oo'
      clear oo'
      have oc := Ok.refl oo.1
      obtain ⟨lo0, lo1⟩ := (id hlo).duo
      obtain ⟨hi0, hi1⟩ := (id hhi).duo
      obtain ⟨PA0, PA1, PA2, PA3⟩ := (id hPA).quad
      obtain ⟨PB0, PB1, PB2, PB3⟩ := (id hPB).quad
      obtain ⟨PU0, PU1, PU2, PU3⟩ := (id hPU).quad
      obtain ⟨J0, J1, J2, J3⟩ := (id hJ).quad; have yJ0 := (id hJ).frozen 0; have yJ1 := (id hJ).frozen 1; have yJ2 := (id hJ).frozen 2; have yJ3 := (id hJ).frozen 3
      obtain ⟨Q0, Q1, Q2, Q3⟩ := (id hQ).quad; have yQ0 := (id hQ).frozen 0; have yQ1 := (id hQ).frozen 1; have yQ2 := (id hQ).frozen 2; have yQ3 := (id hQ).frozen 3
      obtain ⟨PZ0, PZ1, PZ2, PZ3⟩ := (id hPZ).quad
      clear D35 L1 L2 DM L3 H1
      (try clear PZ0 PZ1 PZ2 PZ3)
      (try clear hPZ lPZ)
      (try clear ePZ)
      (try clear PB0 PB1 PB2 PB3)
      (try clear hPB lPB)
      (try clear ePB)
      (try clear PU0 PU1 PU2 PU3)
      (try clear hPU lPU)
      (try clear ePU)
      go_upto_region 16 with (go_at_call 25; ((with_reducible refine (S1.out _ _ (oc.step (by go_grown))).mono ?_); rintro e1 w2 ⟨rfl, hk⟩; (try clear oc); have oc := hk; clear hk; (try clear lo0 lo1); have clo := hlo.below llo oc.2; obtain ⟨lo0, lo1⟩ := clo.duo; clear clo; (try clear hi0 hi1); have chi := hhi.below lhi oc.2; obtain ⟨hi0, hi1⟩ := chi.duo; clear chi; (try clear PA0 PA1 PA2 PA3); have cPA := hPA.below lPA oc.2; obtain ⟨PA0, PA1, PA2, PA3⟩ := cPA.quad; clear cPA; (try clear J0 J1 J2 J3 yJ0 yJ1 yJ2 yJ3); have cJ := hJ.below lJ oc.2; obtain ⟨J0, J1, J2, J3⟩ := cJ.quad; have yJ0 := cJ.frozen 0; have yJ1 := cJ.frozen 1; have yJ2 := cJ.frozen 2; have yJ3 := cJ.frozen 3; clear cJ; (try clear Q0 Q1 Q2 Q3 yQ0 yQ1 yQ2 yQ3); have cQ := hQ.below lQ oc.2; obtain ⟨Q0, Q1, Q2, Q3⟩ := cQ.quad; have yQ0 := cQ.frozen 0; have yQ1 := cQ.frozen 1; have yQ2 := cQ.frozen 2; have yQ3 := cQ.frozen 3; clear cQ))
      have clo := hlo.below llo oc.2
      have llo' : glo < (set4 w2 gJ 0 (-1) 1 0).heap.size := by rw [size_set4]; exact Nat.lt_of_lt_of_le llo oc.2.size
      have hlo' := (heap_set4_ne dloJ 0 (-1) 1 0).trans clo
      have chi := hhi.below lhi oc.2
      have lhi' : ghi < (set4 w2 gJ 0 (-1) 1 0).heap.size := by rw [size_set4]; exact Nat.lt_of_lt_of_le lhi oc.2.size
      have hhi' := (heap_set4_ne dhiJ 0 (-1) 1 0).trans chi
      have cPA := hPA.below lPA oc.2
      have lPA' : gPA < (set4 w2 gJ 0 (-1) 1 0).heap.size := by rw [size_set4]; exact Nat.lt_of_lt_of_le lPA oc.2.size
      have hPA' := (heap_set4_ne dPAJ 0 (-1) 1 0).trans cPA
      have cJ := hJ.below lJ oc.2
      have lJ' : gJ < (set4 w2 gJ 0 (-1) 1 0).heap.size := by rw [size_set4]; exact Nat.lt_of_lt_of_le lJ oc.2.size
      have hJ' := cJ.store 0 (-1) 1 0
      have cQ := hQ.below lQ oc.2
      have lQ' : gQ < (set4 w2 gJ 0 (-1) 1 0).heap.size := by rw [size_set4]; exact Nat.lt_of_lt_of_le lQ oc.2.size
      have hQ' := (heap_set4_ne dJQ.symm 0 (-1) 1 0).trans cQ
      have oo' : Ok w (set4 w2 gJ 0 (-1) 1 0) := (oo.step oc.2).low' (set4_below (oo.step oc.2).2 eJ 0 (-1) 1 0)
      (try clear lo0 lo1 hi0 hi1 PA0 PA1 PA2 PA3 J0 J1 J2 J3 yJ0 yJ1 yJ2 yJ3 Q0 Q1 Q2 Q3 yQ0 yQ1 yQ2 yQ3)
      clear oo oc hlo llo clo hhi lhi chi hPA lPA cPA hJ lJ cJ hQ lQ cQ
      change Code.wp _ _ _ _ (set4 w2 gJ 0 (-1) 1 0)
      generalize set4 w2 gJ 0 (-1) 1 0 = V10 at *
      have hlo : BkE V10 glo (-1) 0 := hlo'
      have llo := llo'
      clear hlo' llo'
      have hhi : BkE V10 ghi 1 0 := hhi'
      have lhi := lhi'
      clear hhi' lhi'
      have hPA : BkU V10 gPA 0 1 0 3 := hPA'
      have lPA := lPA'
      clear hPA' lPA'
      have hJ : BkU V10 gJ 0 (-1) 1 0 := hJ'
      have lJ := lJ'
      clear hJ' lJ'
      have hQ : BkU V10 gQ 0 3 0 3 := hQ'
      have lQ := lQ'
      clear hQ' lQ'
      have oo := oo'
      clear oo'
      have oc := Ok.refl oo.1
      clear S1
      obtain ⟨lo0, lo1⟩ := (id hlo).duo
      obtain ⟨hi0, hi1⟩ := (id hhi).duo
      obtain ⟨PA0, PA1, PA2, PA3⟩ := (id hPA).quad
      obtain ⟨J0, J1, J2, J3⟩ := (id hJ).quad; have yJ0 := (id hJ).frozen 0; have yJ1 := (id hJ).frozen 1; have yJ2 := (id hJ).frozen 2; have yJ3 := (id hJ).frozen 3
      obtain ⟨Q0, Q1, Q2, Q3⟩ := (id hQ).quad; have yQ0 := (id hQ).frozen 0; have yQ1 := (id hQ).frozen 1; have yQ2 := (id hQ).frozen 2; have yQ3 := (id hQ).frozen 3
      go_upto_region 17 with (first
              | (go_at_call 28; ((with_reducible refine (D0M.out _ _ (oc.step (by go_grown))).mono ?_); rintro e1 w2 ⟨rfl, hk⟩; (try clear oc); have oc := hk; clear hk; (try clear lo0 lo1); have clo := hlo.below llo oc.2; obtain ⟨lo0, lo1⟩ := clo.duo; clear clo; (try clear hi0 hi1); have chi := hhi.below lhi oc.2; obtain ⟨hi0, hi1⟩ := chi.duo; clear chi; (try clear PA0 PA1 PA2 PA3); have cPA := hPA.below lPA oc.2; obtain ⟨PA0, PA1, PA2, PA3⟩ := cPA.quad; clear cPA; (try clear J0 J1 J2 J3 yJ0 yJ1 yJ2 yJ3); have cJ := hJ.below lJ oc.2; obtain ⟨J0, J1, J2, J3⟩ := cJ.quad; have yJ0 := cJ.frozen 0; have yJ1 := cJ.frozen 1; have yJ2 := cJ.frozen 2; have yJ3 := cJ.frozen 3; clear cJ; (try clear Q0 Q1 Q2 Q3 yQ0 yQ1 yQ2 yQ3); have cQ := hQ.below lQ oc.2; obtain ⟨Q0, Q1, Q2, Q3⟩ := cQ.quad; have yQ0 := cQ.frozen 0; have yQ1 := cQ.frozen 1; have yQ2 := cQ.frozen 2; have yQ3 := cQ.frozen 3; clear cQ))
              | (go_at_call 25; ((with_reducible refine (S2.out _ _ (oc.step (by go_grown))).mono ?_); rintro e1 w2 ⟨rfl, hk⟩; (try clear oc); have oc := hk; clear hk; (try clear lo0 lo1); have clo := hlo.below llo oc.2; obtain ⟨lo0, lo1⟩ := clo.duo; clear clo; (try clear hi0 hi1); have chi := hhi.below lhi oc.2; obtain ⟨hi0, hi1⟩ := chi.duo; clear chi; (try clear PA0 PA1 PA2 PA3); have cPA := hPA.below lPA oc.2; obtain ⟨PA0, PA1, PA2, PA3⟩ := cPA.quad; clear cPA; (try clear J0 J1 J2 J3 yJ0 yJ1 yJ2 yJ3); have cJ := hJ.below lJ oc.2; obtain ⟨J0, J1, J2, J3⟩ := cJ.quad; have yJ0 := cJ.frozen 0; have yJ1 := cJ.frozen 1; have yJ2 := cJ.frozen 2; have yJ3 := cJ.frozen 3; clear cJ; (try clear Q0 Q1 Q2 Q3 yQ0 yQ1 yQ2 yQ3); have cQ := hQ.below lQ oc.2; obtain ⟨Q0, Q1, Q2, Q3⟩ := cQ.quad; have yQ0 := cQ.frozen 0; have yQ1 := cQ.frozen 1; have yQ2 := cQ.frozen 2; have yQ3 := cQ.frozen 3; clear cQ)))
      have clo := hlo.below llo oc.2
      have llo' : glo < (set4 w2 gQ 0 0 0 0).heap.size := by rw [size_set4]; exact Nat.lt_of_lt_of_le llo oc.2.size
      have hlo' := (heap_set4_ne dloQ 0 0 0 0).trans clo
      have chi := hhi.below lhi oc.2
      have lhi' : ghi < (set4 w2 gQ 0 0 0 0).heap.size := by rw [size_set4]; exact Nat.lt_of_lt_of_le lhi oc.2.size
      have hhi' := (heap_set4_ne dhiQ 0 0 0 0).trans chi
      have cPA := hPA.below lPA oc.2
      have lPA' : gPA < (set4 w2 gQ 0 0 0 0).heap.size := by rw [size_set4]; exact Nat.lt_of_lt_of_le lPA oc.2.size
      have hPA' := (heap_set4_ne dPAQ 0 0 0 0).trans cPA
      have cJ := hJ.below lJ oc.2
      have lJ' : gJ < (set4 w2 gQ 0 0 0 0).heap.size := by rw [size_set4]; exact Nat.lt_of_lt_of_le lJ oc.2.size
      have hJ' := (heap_set4_ne dJQ 0 0 0 0).trans cJ
      have cQ := hQ.below lQ oc.2
      have lQ' : gQ < (set4 w2 gQ 0 0 0 0).heap.size := by rw [size_set4]; exact Nat.lt_of_lt_of_le lQ oc.2.size
      have hQ' := cQ.store 0 0 0 0
      have oo' : Ok w (set4 w2 gQ 0 0 0 0) := (oo.step oc.2).low' (set4_below (oo.step oc.2).2 eQ 0 0 0 0)
      (try clear lo0 lo1 hi0 hi1 PA0 PA1 PA2 PA3 J0 J1 J2 J3 yJ0 yJ1 yJ2 yJ3 Q0 Q1 Q2 Q3 yQ0 yQ1 yQ2 yQ3)
      clear oo oc hlo llo clo hhi lhi chi hPA lPA cPA hJ lJ cJ hQ lQ cQ
      change Code.wp _ _ _ _ (set4 w2 gQ 0 0 0 0)
      generalize set4 w2 gQ 0 0 0 0 = V11 at *
      have hlo : BkE V11 glo (-1) 0 := hlo'
      have llo := llo'
      clear hlo' llo'
      have hhi : BkE V11 ghi 1 0 := hhi'
      have lhi := lhi'
      clear hhi' lhi'
      have hPA : BkU V11 gPA 0 1 0 3 := hPA'
      have lPA := lPA'
      clear hPA' lPA'
      have hJ : BkU V11 gJ 0 (-1) 1 0 := hJ'
      have lJ := lJ'
      clear hJ' lJ'
      have hQ : BkU V11 gQ 0 0 0 0 := hQ'
      have lQ := lQ'
      clear hQ' lQ'
      have oo := oo'
      clear oo'
      have oc := Ok.refl oo.1
      clear D0M S2
      obtain ⟨lo0, lo1⟩ := (id hlo).duo
      obtain ⟨hi0, hi1⟩ := (id hhi).duo
      obtain ⟨PA0, PA1, PA2, PA3⟩ := (id hPA).quad
      obtain ⟨J0, J1, J2, J3⟩ := (id hJ).quad; have yJ0 := (id hJ).frozen 0; have yJ1 := (id hJ).frozen 1; have yJ2 := (id hJ).frozen 2; have yJ3 := (id hJ).frozen 3
      obtain ⟨Q0, Q1, Q2, Q3⟩ := (id hQ).quad; have yQ0 := (id hQ).frozen 0; have yQ1 := (id hQ).frozen 1; have yQ2 := (id hQ).frozen 2; have yQ3 := (id hQ).frozen 3
      go_upto_region 19 with (first
              | (go_at_call 27; ((with_reducible refine (G1.out _ _ (oc.step (by go_grown))).mono ?_); rintro e1 w2 ⟨rfl, hk⟩; (try clear oc); have oc := hk; clear hk; (try clear lo0 lo1); have clo := hlo.below llo oc.2; obtain ⟨lo0, lo1⟩ := clo.duo; clear clo; (try clear hi0 hi1); have chi := hhi.below lhi oc.2; obtain ⟨hi0, hi1⟩ := chi.duo; clear chi; (try clear PA0 PA1 PA2 PA3); have cPA := hPA.below lPA oc.2; obtain ⟨PA0, PA1, PA2, PA3⟩ := cPA.quad; clear cPA; (try clear J0 J1 J2 J3 yJ0 yJ1 yJ2 yJ3); have cJ := hJ.below lJ oc.2; obtain ⟨J0, J1, J2, J3⟩ := cJ.quad; have yJ0 := cJ.frozen 0; have yJ1 := cJ.frozen 1; have yJ2 := cJ.frozen 2; have yJ3 := cJ.frozen 3; clear cJ; (try clear Q0 Q1 Q2 Q3 yQ0 yQ1 yQ2 yQ3); have cQ := hQ.below lQ oc.2; obtain ⟨Q0, Q1, Q2, Q3⟩ := cQ.quad; have yQ0 := cQ.frozen 0; have yQ1 := cQ.frozen 1; have yQ2 := cQ.frozen 2; have yQ3 := cQ.frozen 3; clear cQ))
              | (go_at_call 27; ((with_reducible refine (G2.out _ _ (oc.step (by go_grown))).mono ?_); rintro e1 w2 ⟨rfl, hk⟩; (try clear oc); have oc := hk; clear hk; (try clear lo0 lo1); have clo := hlo.below llo oc.2; obtain ⟨lo0, lo1⟩ := clo.duo; clear clo; (try clear hi0 hi1); have chi := hhi.below lhi oc.2; obtain ⟨hi0, hi1⟩ := chi.duo; clear chi; (try clear PA0 PA1 PA2 PA3); have cPA := hPA.below lPA oc.2; obtain ⟨PA0, PA1, PA2, PA3⟩ := cPA.quad; clear cPA; (try clear J0 J1 J2 J3 yJ0 yJ1 yJ2 yJ3); have cJ := hJ.below lJ oc.2; obtain ⟨J0, J1, J2, J3⟩ := cJ.quad; have yJ0 := cJ.frozen 0; have yJ1 := cJ.frozen 1; have yJ2 := cJ.frozen 2; have yJ3 := cJ.frozen 3; clear cJ; (try clear Q0 Q1 Q2 Q3 yQ0 yQ1 yQ2 yQ3); have cQ := hQ.below lQ oc.2; obtain ⟨Q0, Q1, Q2, Q3⟩ := cQ.quad; have yQ0 := cQ.frozen 0; have yQ1 := cQ.frozen 1; have yQ2 := cQ.frozen 2; have yQ3 := cQ.frozen 3; clear cQ)))
      generalize w2 = V12 at *
      have ocY := oc
      have hlo' := hlo.below llo ocY.2
      have llo' := Nat.lt_of_lt_of_le llo ocY.2.size
      have hhi' := hhi.below lhi ocY.2
      have lhi' := Nat.lt_of_lt_of_le lhi ocY.2.size
      have hPA' := hPA.below lPA ocY.2
      have lPA' := Nat.lt_of_lt_of_le lPA ocY.2.size
      have hJ' := hJ.below lJ ocY.2
      have lJ' := Nat.lt_of_lt_of_le lJ ocY.2.size
      have hQ' := hQ.below lQ ocY.2
      have lQ' := Nat.lt_of_lt_of_le lQ ocY.2.size
      (try clear lo0 lo1 hi0 hi1 PA0 PA1 PA2 PA3 J0 J1 J2 J3 yJ0 yJ1 yJ2 yJ3 Q0 Q1 Q2 Q3 yQ0 yQ1 yQ2 yQ3)
      have oo' := oo.step ocY.2
      clear ocY oo oc hlo llo hhi lhi hPA lPA hJ lJ hQ lQ
      have hlo := hlo'
      have llo := llo'
      clear hlo' llo'
      have hhi := hhi'
      have lhi := lhi'
      clear hhi' lhi'
      have hPA := hPA'
      have lPA := lPA'
      clear hPA' lPA'
      have hJ := hJ'
      have lJ := lJ'
      clear hJ' lJ'
      have hQ := hQ'
      have lQ := lQ'
      clear hQ' lQ'
      have oo := oo'
      clear oo'
      have oc := Ok.refl oo.1
      obtain ⟨lo0, lo1⟩ := (id hlo).duo
      obtain ⟨hi0, hi1⟩ := (id hhi).duo
      obtain ⟨PA0, PA1, PA2, PA3⟩ := (id hPA).quad
      obtain ⟨J0, J1, J2, J3⟩ := (id hJ).quad; have yJ0 := (id hJ).frozen 0; have yJ1 := (id hJ).frozen 1; have yJ2 := (id hJ).frozen 2; have yJ3 := (id hJ).frozen 3
      obtain ⟨Q0, Q1, Q2, Q3⟩ := (id hQ).quad; have yQ0 := (id hQ).frozen 0; have yQ1 := (id hQ).frozen 1; have yQ2 := (id hQ).frozen 2; have yQ3 := (id hQ).frozen 3
      clear G1 G2
      (try clear PA0 PA1 PA2 PA3)
      (try clear hPA lPA)
      (try clear ePA)
      (try clear Q0 Q1 Q2 Q3 yQ0 yQ1 yQ2 yQ3)
      (try clear hQ lQ)
      (try clear eQ)
      (try clear hi0 hi1)
      (try clear hhi lhi)
      (try clear ehi)
      go_upto_region 20 with fail
      obtain ⟨hT, zT, tT⟩ := st4_new V12 (⟨#[45, 105, 110, 102, 46, 46, 45, 51]⟩) (⟨#[53, 46, 46, 51]⟩) (⟨#[105, 110, 102, 46, 46, 105, 110, 102]⟩) (⟨#[49, 46, 46, 46, 51]⟩) _ rfl
      generalize (V12.alloc (Obj.cells #[Value.string (⟨#[45, 105, 110, 102, 46, 46, 45, 51]⟩), Value.string (⟨#[53, 46, 46, 51]⟩), Value.string (⟨#[105, 110, 102, 46, 46, 105, 110, 102]⟩), Value.string (⟨#[49, 46, 46, 46, 51]⟩)] 9)) = V13 at *
      have dJT : gJ ≠ V12.heap.size := Nat.ne_of_lt (Nat.lt_of_lt_of_le lJ oc.2.size)
      have eT : w.heap.size ≤ V12.heap.size := (oo.step oc.2).2.size
      have lT : V12.heap.size < V13.heap.size := by omega
      have ocY := oc.step tT
      have hlo' := hlo.below llo ocY.2
      have llo' := Nat.lt_of_lt_of_le llo ocY.2.size
      have hJ' := hJ.below lJ ocY.2
      have lJ' := Nat.lt_of_lt_of_le lJ ocY.2.size
      (try clear lo0 lo1 J0 J1 J2 J3 yJ0 yJ1 yJ2 yJ3)
      have oo' := oo.step ocY.2
      clear ocY oo oc hlo llo hJ lJ
      have hlo := hlo'
      have llo := llo'
      clear hlo' llo'
      have hJ := hJ'
      have lJ := lJ'
      clear hJ' lJ'
      have oo := oo'
      clear oo'
      have oc := Ok.refl oo.1
      have zc := zT
      clear tT zT
      generalize V12.heap.size = gT at *
      obtain ⟨hN, zN, tN⟩ := in4_new V13 0 12 4 5 _ rfl
      generalize (V13.alloc (Obj.cells #[Value.int IntKind.i64 0, Value.int IntKind.i64 12, Value.int IntKind.i64 4, Value.int IntKind.i64 5] 3)) = V14 at *
      have dJN : gJ ≠ V13.heap.size := Nat.ne_of_lt (Nat.lt_of_lt_of_le lJ oc.2.size)
      have eN : w.heap.size ≤ V13.heap.size := (oo.step oc.2).2.size
      have lN : V13.heap.size < V14.heap.size := by omega
      have ocY := oc.step tN
      have hlo' := hlo.below llo ocY.2
      have llo' := Nat.lt_of_lt_of_le llo ocY.2.size
      have hJ' := hJ.below lJ ocY.2
      have lJ' := Nat.lt_of_lt_of_le lJ ocY.2.size
      have hT' := hT.below lT ocY.2
      have lT' := Nat.lt_of_lt_of_le lT ocY.2.size
      (try clear lo0 lo1 J0 J1 J2 J3 yJ0 yJ1 yJ2 yJ3 T0 T1 T2 T3)
      have oo' := oo.step ocY.2
      clear ocY oo oc hlo llo hJ lJ hT lT
      have hlo := hlo'
      have llo := llo'
      clear hlo' llo'
      have hJ := hJ'
      have lJ := lJ'
      clear hJ' lJ'
      have hT := hT'
      have lT := lT'
      clear hT' lT'
      have oo := oo'
      clear oo'
      have oc := Ok.refl oo.1
      rw [zc] at hN lN eN dJN
      clear tN zN zc
      generalize gT + 1 = gN at *
      obtain ⟨lo0, lo1⟩ := (id hlo).duo
      obtain ⟨J0, J1, J2, J3⟩ := (id hJ).quad; have yJ0 := (id hJ).frozen 0; have yJ1 := (id hJ).frozen 1; have yJ2 := (id hJ).frozen 2; have yJ3 := (id hJ).frozen 3
      obtain ⟨T0, T1, T2, T3⟩ := (id hT).quad
      obtain ⟨N0, N1, N2, N3⟩ := (id hN).quad
      go_upto_region 21 with fail
      go_loopw [20] (fun v20 wr => ∃ n t0 t1 t2 t3 : Int, 0 ≤ n ∧ n ≤ 4 ∧ v20 = .int .i64 n ∧ (BkU wr gJ t0 t1 t2 t3 ∧ gJ < wr.heap.size) ∧ (BkE wr glo (-1) 0 ∧ glo < wr.heap.size) ∧ (BkS4 wr gT ⟨#[45, 105, 110, 102, 46, 46, 45, 51]⟩ ⟨#[53, 46, 46, 51]⟩ ⟨#[105, 110, 102, 46, 46, 105, 110, 102]⟩ ⟨#[49, 46, 46, 46, 51]⟩ ∧ gT < wr.heap.size) ∧ (BkI4 wr gN 0 12 4 5 ∧ gN < wr.heap.size) ∧ Ok w wr) (fun v20 _ => (4 - intOf v20).toNat)
      case atStart => exact ⟨0, 0, -1, 1, 0, by omega, by omega, rfl, ⟨hJ, lJ⟩, ⟨hlo, llo⟩, ⟨hT, lT⟩, ⟨hN, lN⟩, oo⟩
      case round =>
        (try clear lo0 lo1 J0 J1 J2 J3 yJ0 yJ1 yJ2 yJ3 T0 T1 T2 T3 N0 N1 N2 N3)
        clear hJ lJ hlo llo hT lT hN lN oo oc
        obtain ⟨n, t0, t1, t2, t3, hn0, hn4, rfl, ⟨hJ, lJ⟩, ⟨hlo, llo⟩, ⟨hT, lT⟩, ⟨hN, lN⟩, oo⟩ := hrel
        rcases (show n = 0 ∨ n = 1 ∨ n = 2 ∨ n = 3 ∨ n = 4 by omega) with rfl | rfl | rfl | rfl | rfl
        · skip
          have oc := Ok.refl oo.1
          obtain ⟨lo0, lo1⟩ := (id hlo).duo
          obtain ⟨J0, J1, J2, J3⟩ := (id hJ).quad; have yJ0 := (id hJ).frozen 0; have yJ1 := (id hJ).frozen 1; have yJ2 := (id hJ).frozen 2; have yJ3 := (id hJ).frozen 3
          obtain ⟨T0, T1, T2, T3⟩ := (id hT).quad
          obtain ⟨N0, N1, N2, N3⟩ := (id hN).quad
          go_upto_region 24 with (go_at_call 31; ((with_reducible refine (Pp1.out _ _ (oc.step (by go_grown))).mono ?_); rintro e1 w2 ⟨rfl, hk⟩; (try clear oc); have oc := hk; clear hk; (try clear lo0 lo1); have clo := hlo.below llo oc.2; obtain ⟨lo0, lo1⟩ := clo.duo; clear clo; (try clear J0 J1 J2 J3 yJ0 yJ1 yJ2 yJ3); have cJ := hJ.below lJ oc.2; obtain ⟨J0, J1, J2, J3⟩ := cJ.quad; have yJ0 := cJ.frozen 0; have yJ1 := cJ.frozen 1; have yJ2 := cJ.frozen 2; have yJ3 := cJ.frozen 3; clear cJ; (try clear T0 T1 T2 T3); have cT := hT.below lT oc.2; obtain ⟨T0, T1, T2, T3⟩ := cT.quad; clear cT; (try clear N0 N1 N2 N3); have cN := hN.below lN oc.2; obtain ⟨N0, N1, N2, N3⟩ := cN.quad; clear cN))
          have clo := hlo.below llo oc.2
          have llo' : glo < (set4 w2 gJ (-1) 0 0 (-3)).heap.size := by rw [size_set4]; exact Nat.lt_of_lt_of_le llo oc.2.size
          have hlo' := (heap_set4_ne dloJ (-1) 0 0 (-3)).trans clo
          have cJ := hJ.below lJ oc.2
          have lJ' : gJ < (set4 w2 gJ (-1) 0 0 (-3)).heap.size := by rw [size_set4]; exact Nat.lt_of_lt_of_le lJ oc.2.size
          have hJ' := cJ.store (-1) 0 0 (-3)
          have cT := hT.below lT oc.2
          have lT' : gT < (set4 w2 gJ (-1) 0 0 (-3)).heap.size := by rw [size_set4]; exact Nat.lt_of_lt_of_le lT oc.2.size
          have hT' := (heap_set4_ne dJT.symm (-1) 0 0 (-3)).trans cT
          have cN := hN.below lN oc.2
          have lN' : gN < (set4 w2 gJ (-1) 0 0 (-3)).heap.size := by rw [size_set4]; exact Nat.lt_of_lt_of_le lN oc.2.size
          have hN' := (heap_set4_ne dJN.symm (-1) 0 0 (-3)).trans cN
          have oo' : Ok w (set4 w2 gJ (-1) 0 0 (-3)) := (oo.step oc.2).low' (set4_below (oo.step oc.2).2 eJ (-1) 0 0 (-3))
          (try clear lo0 lo1 J0 J1 J2 J3 yJ0 yJ1 yJ2 yJ3 T0 T1 T2 T3 N0 N1 N2 N3)
          clear oo oc hlo llo clo hJ lJ cJ hT lT cT hN lN cN
          change Code.wp _ _ _ _ (set4 w2 gJ (-1) 0 0 (-3))
          generalize set4 w2 gJ (-1) 0 0 (-3) = V35 at *
          have hlo : BkE V35 glo (-1) 0 := hlo'
          have llo := llo'
          clear hlo' llo'
          have hJ : BkU V35 gJ (-1) 0 0 (-3) := hJ'
          have lJ := lJ'
          clear hJ' lJ'
          have hT : BkS4 V35 gT (⟨#[45, 105, 110, 102, 46, 46, 45, 51]⟩) (⟨#[53, 46, 46, 51]⟩) (⟨#[105, 110, 102, 46, 46, 105, 110, 102]⟩) (⟨#[49, 46, 46, 46, 51]⟩) := hT'
          have lT := lT'
          clear hT' lT'
          have hN : BkI4 V35 gN 0 12 4 5 := hN'
          have lN := lN'
          clear hN' lN'
          have oo := oo'
          clear oo'
          have oc := Ok.refl oo.1
          obtain ⟨lo0, lo1⟩ := (id hlo).duo
          obtain ⟨J0, J1, J2, J3⟩ := (id hJ).quad; have yJ0 := (id hJ).frozen 0; have yJ1 := (id hJ).frozen 1; have yJ2 := (id hJ).frozen 2; have yJ3 := (id hJ).frozen 3
          obtain ⟨T0, T1, T2, T3⟩ := (id hT).quad
          obtain ⟨N0, N1, N2, N3⟩ := (id hN).quad
          (try clear lo0 lo1 J0 J1 J2 J3 yJ0 yJ1 yJ2 yJ3 T0 T1 T2 T3 N0 N1 N2 N3)
          have HF := Lib.hid (fun X (h : Ok V35 X) => And.intro (hlo.below llo h.2).duo (And.intro (hJ.below lJ h.2).quad (And.intro (hT.below lT h.2).quad (And.intro (hN.below lN h.2).quad (trivial)))))
          refine wp_region_G (S := (Ok V35)) (by kernel_rfl) growsB (oc.step (by go_grown)) ?_
          refine tG (i := 0) (o := ?od11n0) (v := ?vd11n0) growsB ?id11n0 (by kernel_rfl) ?qd11n0 ?yd11n0 ?rd11n0
          case id11n0 => (simp only [gA, gZ]; rfl)
          case qd11n0 => exact fun _ _ _ h => h
          case yd11n0 => exact .inl ⟨by rfl, by (intro w hSw; obtain ⟨⟨lo0, lo1⟩, ⟨J0, J1, J2, J3⟩, ⟨T0, T1, T2, T3⟩, ⟨N0, N1, N2, N3⟩, -⟩ := HF.out w hSw; go_simp; try with_reducible rfl)⟩
          (try simp only [Act.put, pA, pZ, pS])
          refine tG (i := 1) (o := ?od11n1) (v := ?vd11n1) growsB ?id11n1 (by kernel_rfl) ?qd11n1 ?yd11n1 ?rd11n1
          case id11n1 => (simp only [gA, gS, gZ]; rfl)
          case qd11n1 => exact fun _ _ _ h => h
          case yd11n1 => exact .inl ⟨by rfl, by (intro w hSw; obtain ⟨⟨lo0, lo1⟩, ⟨J0, J1, J2, J3⟩, ⟨T0, T1, T2, T3⟩, ⟨N0, N1, N2, N3⟩, -⟩ := HF.out w hSw; go_simp; try with_reducible rfl)⟩
          (try simp only [Act.put, pA, pZ, pS])
          refine tG (i := 2) (o := ?od11n2) (v := ?vd11n2) growsB ?id11n2 (by kernel_rfl) ?qd11n2 ?yd11n2 ?rd11n2
          case id11n2 => (simp only [gA, gS, gZ]; rfl)
          case qd11n2 => exact fun _ _ _ h => h
          case yd11n2 => exact .inl ⟨by rfl, by (intro w hSw; obtain ⟨⟨lo0, lo1⟩, ⟨J0, J1, J2, J3⟩, ⟨T0, T1, T2, T3⟩, ⟨N0, N1, N2, N3⟩, -⟩ := HF.out w hSw; go_simp; try with_reducible rfl)⟩
          (try simp only [Act.put, pA, pZ, pS])
          refine tG (i := 3) (o := ?od11n3) (v := ?vd11n3) growsB ?id11n3 (by kernel_rfl) ?qd11n3 ?yd11n3 ?rd11n3
          case id11n3 => (simp only [gA, gS, gZ]; rfl)
          case qd11n3 => exact fun _ _ _ h => h
          case yd11n3 => exact .inl ⟨by rfl, by (intro w hSw; obtain ⟨⟨lo0, lo1⟩, ⟨J0, J1, J2, J3⟩, ⟨T0, T1, T2, T3⟩, ⟨N0, N1, N2, N3⟩, -⟩ := HF.out w hSw; go_simp; try with_reducible rfl)⟩
          (try simp only [Act.put, pA, pZ, pS])
          refine tG (i := 4) (o := ?od11n4) (v := ?vd11n4) growsB ?id11n4 (by kernel_rfl) ?qd11n4 ?yd11n4 ?rd11n4
          case id11n4 => (simp only [gA, gS, gZ]; rfl)
          case qd11n4 => exact fun _ _ _ h => h
          case yd11n4 => exact .inl ⟨by rfl, by (intro w hSw; obtain ⟨⟨lo0, lo1⟩, ⟨J0, J1, J2, J3⟩, ⟨T0, T1, T2, T3⟩, ⟨N0, N1, N2, N3⟩, -⟩ := HF.out w hSw; go_simp; try with_reducible rfl)⟩
          (try simp only [Act.put, pA, pZ, pS])
          refine tG (i := 5) (o := ?od11n5) (v := ?vd11n5) growsB ?id11n5 (by kernel_rfl) ?qd11n5 ?yd11n5 ?rd11n5
          case id11n5 => (simp only [gA, gS, gZ]; rfl)
          case qd11n5 => exact fun _ _ _ h => h
          case yd11n5 => exact .inl ⟨by rfl, by (intro w hSw; obtain ⟨⟨lo0, lo1⟩, ⟨J0, J1, J2, J3⟩, ⟨T0, T1, T2, T3⟩, ⟨N0, N1, N2, N3⟩, -⟩ := HF.out w hSw; go_simp; try with_reducible rfl)⟩
          (try simp only [Act.put, pA, pZ, pS])
          refine tG (i := 6) (o := ?od11n6) (v := ?vd11n6) growsB ?id11n6 (by kernel_rfl) ?qd11n6 ?yd11n6 ?rd11n6
          case id11n6 => (simp only [gA, gS, gZ]; rfl)
          case qd11n6 => exact fun _ _ _ h => h
          case yd11n6 => exact .inl ⟨by rfl, by (intro w hSw; obtain ⟨⟨lo0, lo1⟩, ⟨J0, J1, J2, J3⟩, ⟨T0, T1, T2, T3⟩, ⟨N0, N1, N2, N3⟩, -⟩ := HF.out w hSw; go_simp; try with_reducible rfl)⟩
          (try simp only [Act.put, pA, pZ, pS])
          refine tG (i := 7) (o := ?od11n7) (v := ?vd11n7) growsB ?id11n7 (by kernel_rfl) ?qd11n7 ?yd11n7 ?rd11n7
          case id11n7 => (simp only [gA, gS, gZ]; rfl)
          case qd11n7 => exact fun _ _ _ h => h
          case yd11n7 => exact .inl ⟨by rfl, by (intro w hSw; obtain ⟨⟨lo0, lo1⟩, ⟨J0, J1, J2, J3⟩, ⟨T0, T1, T2, T3⟩, ⟨N0, N1, N2, N3⟩, -⟩ := HF.out w hSw; go_simp; try with_reducible rfl)⟩
          (try simp only [Act.put, pA, pZ, pS])
          refine tG (i := 8) (o := ?od11n8) (v := ?vd11n8) growsB ?id11n8 (by kernel_rfl) ?qd11n8 ?yd11n8 ?rd11n8
          case id11n8 => (simp only [gA, gS, gZ]; rfl)
          case qd11n8 => exact fun _ _ _ h => h
          case yd11n8 => exact .inl ⟨by rfl, by (intro w hSw; obtain ⟨⟨lo0, lo1⟩, ⟨J0, J1, J2, J3⟩, ⟨T0, T1, T2, T3⟩, ⟨N0, N1, N2, N3⟩, -⟩ := HF.out w hSw; go_simp; try with_reducible rfl)⟩
          (try simp only [Act.put, pA, pZ, pS])
          refine cG (i := 9) (o := ?od11n9) growsB ?id11n9 (by kernel_rfl) ?qd11n9 ?wd11n9 ?ed11n9 (fun X hX => callO G3.out hX) ?rd11n9
          case id11n9 => (simp only [gA, gS, gZ]; rfl)
          case qd11n9 => exact fun _ _ _ h => h
          case wd11n9 => rfl
          case ed11n9 => (intro w; go_simp; try with_reducible rfl)
          (try simp only [Act.put, pA, pZ, pS])
          refine tG (i := 10) (o := ?od11n10) (v := ?vd11n10) growsB ?id11n10 (by kernel_rfl) ?qd11n10 ?yd11n10 ?rd11n10
          case id11n10 => (simp only [gA, gS, gZ]; rfl)
          case qd11n10 => exact fun _ _ _ h => h
          case yd11n10 => exact .inl ⟨by rfl, by (intro w hSw; obtain ⟨⟨lo0, lo1⟩, ⟨J0, J1, J2, J3⟩, ⟨T0, T1, T2, T3⟩, ⟨N0, N1, N2, N3⟩, -⟩ := HF.out w hSw; go_simp; try with_reducible rfl)⟩
          (try simp only [Act.put, pA, pZ, pS])
          refine wpAnyG_done (by kernel_rfl) ?_ _
          (try clear hX)
          intro w9 hX hT
          clear HF
          have oc := hX
          clear hX hT
          generalize w9 = V36 at *
          have ocY := oc
          have hlo' := hlo.below llo ocY.2
          have llo' := Nat.lt_of_lt_of_le llo ocY.2.size
          have hJ' := hJ.below lJ ocY.2
          have lJ' := Nat.lt_of_lt_of_le lJ ocY.2.size
          have hT' := hT.below lT ocY.2
          have lT' := Nat.lt_of_lt_of_le lT ocY.2.size
          have hN' := hN.below lN ocY.2
          have lN' := Nat.lt_of_lt_of_le lN ocY.2.size
          (try clear lo0 lo1 J0 J1 J2 J3 yJ0 yJ1 yJ2 yJ3 T0 T1 T2 T3 N0 N1 N2 N3)
          have oo' := oo.step ocY.2
          clear ocY oo oc hlo llo hJ lJ hT lT hN lN
          have hlo := hlo'
          have llo := llo'
          clear hlo' llo'
          have hJ := hJ'
          have lJ := lJ'
          clear hJ' lJ'
          have hT := hT'
          have lT := lT'
          clear hT' lT'
          have hN := hN'
          have lN := lN'
          clear hN' lN'
          have oo := oo'
          clear oo'
          have oc := Ok.refl oo.1
          obtain ⟨lo0, lo1⟩ := (id hlo).duo
          obtain ⟨J0, J1, J2, J3⟩ := (id hJ).quad; have yJ0 := (id hJ).frozen 0; have yJ1 := (id hJ).frozen 1; have yJ2 := (id hJ).frozen 2; have yJ3 := (id hJ).frozen 3
          obtain ⟨T0, T1, T2, T3⟩ := (id hT).quad
          obtain ⟨N0, N1, N2, N3⟩ := (id hN).quad
          go_wp2_with fail
          go_roundw
          case rel => exact ⟨1, -1, 0, 0, -3, by omega, by omega, rfl, ⟨hJ, lJ⟩, ⟨hlo, llo⟩, ⟨hT, lT⟩, ⟨hN, lN⟩, oo⟩
          case measure => simp [intOf]
        · skip
          have oc := Ok.refl oo.1
          obtain ⟨lo0, lo1⟩ := (id hlo).duo
          obtain ⟨J0, J1, J2, J3⟩ := (id hJ).quad; have yJ0 := (id hJ).frozen 0; have yJ1 := (id hJ).frozen 1; have yJ2 := (id hJ).frozen 2; have yJ3 := (id hJ).frozen 3
          obtain ⟨T0, T1, T2, T3⟩ := (id hT).quad
          obtain ⟨N0, N1, N2, N3⟩ := (id hN).quad
          go_upto_region 24 with (go_at_call 31; ((with_reducible refine (Pp2.out _ _ (oc.step (by go_grown))).mono ?_); rintro e1 w2 ⟨rfl, hk⟩; (try clear oc); have oc := hk; clear hk; (try clear lo0 lo1); have clo := hlo.below llo oc.2; obtain ⟨lo0, lo1⟩ := clo.duo; clear clo; (try clear J0 J1 J2 J3 yJ0 yJ1 yJ2 yJ3); have cJ := hJ.below lJ oc.2; obtain ⟨J0, J1, J2, J3⟩ := cJ.quad; have yJ0 := cJ.frozen 0; have yJ1 := cJ.frozen 1; have yJ2 := cJ.frozen 2; have yJ3 := cJ.frozen 3; clear cJ; (try clear T0 T1 T2 T3); have cT := hT.below lT oc.2; obtain ⟨T0, T1, T2, T3⟩ := cT.quad; clear cT; (try clear N0 N1 N2 N3); have cN := hN.below lN oc.2; obtain ⟨N0, N1, N2, N3⟩ := cN.quad; clear cN))
          have clo := hlo.below llo oc.2
          have llo' : glo < (set4 w2 gJ 0 0 0 0).heap.size := by rw [size_set4]; exact Nat.lt_of_lt_of_le llo oc.2.size
          have hlo' := (heap_set4_ne dloJ 0 0 0 0).trans clo
          have cJ := hJ.below lJ oc.2
          have lJ' : gJ < (set4 w2 gJ 0 0 0 0).heap.size := by rw [size_set4]; exact Nat.lt_of_lt_of_le lJ oc.2.size
          have hJ' := cJ.store 0 0 0 0
          have cT := hT.below lT oc.2
          have lT' : gT < (set4 w2 gJ 0 0 0 0).heap.size := by rw [size_set4]; exact Nat.lt_of_lt_of_le lT oc.2.size
          have hT' := (heap_set4_ne dJT.symm 0 0 0 0).trans cT
          have cN := hN.below lN oc.2
          have lN' : gN < (set4 w2 gJ 0 0 0 0).heap.size := by rw [size_set4]; exact Nat.lt_of_lt_of_le lN oc.2.size
          have hN' := (heap_set4_ne dJN.symm 0 0 0 0).trans cN
          have oo' : Ok w (set4 w2 gJ 0 0 0 0) := (oo.step oc.2).low' (set4_below (oo.step oc.2).2 eJ 0 0 0 0)
          (try clear lo0 lo1 J0 J1 J2 J3 yJ0 yJ1 yJ2 yJ3 T0 T1 T2 T3 N0 N1 N2 N3)
          clear oo oc hlo llo clo hJ lJ cJ hT lT cT hN lN cN
          change Code.wp _ _ _ _ (set4 w2 gJ 0 0 0 0)
          generalize set4 w2 gJ 0 0 0 0 = V55 at *
          have hlo : BkE V55 glo (-1) 0 := hlo'
          have llo := llo'
          clear hlo' llo'
          have hJ : BkU V55 gJ 0 0 0 0 := hJ'
          have lJ := lJ'
          clear hJ' lJ'
          have hT : BkS4 V55 gT (⟨#[45, 105, 110, 102, 46, 46, 45, 51]⟩) (⟨#[53, 46, 46, 51]⟩) (⟨#[105, 110, 102, 46, 46, 105, 110, 102]⟩) (⟨#[49, 46, 46, 46, 51]⟩) := hT'
          have lT := lT'
          clear hT' lT'
          have hN : BkI4 V55 gN 0 12 4 5 := hN'
          have lN := lN'
          clear hN' lN'
          have oo := oo'
          clear oo'
          have oc := Ok.refl oo.1
          obtain ⟨lo0, lo1⟩ := (id hlo).duo
          obtain ⟨J0, J1, J2, J3⟩ := (id hJ).quad; have yJ0 := (id hJ).frozen 0; have yJ1 := (id hJ).frozen 1; have yJ2 := (id hJ).frozen 2; have yJ3 := (id hJ).frozen 3
          obtain ⟨T0, T1, T2, T3⟩ := (id hT).quad
          obtain ⟨N0, N1, N2, N3⟩ := (id hN).quad
          (try clear lo0 lo1 J0 J1 J2 J3 yJ0 yJ1 yJ2 yJ3 T0 T1 T2 T3 N0 N1 N2 N3)
          have HF := Lib.hid (fun X (h : Ok V55 X) => And.intro (hlo.below llo h.2).duo (And.intro (hJ.below lJ h.2).quad (And.intro (hT.below lT h.2).quad (And.intro (hN.below lN h.2).quad (trivial)))))
          refine wp_region_G (S := (Ok V55)) (by kernel_rfl) growsB (oc.step (by go_grown)) ?_
          refine tG (i := 0) (o := ?od21n0) (v := ?vd21n0) growsB ?id21n0 (by kernel_rfl) ?qd21n0 ?yd21n0 ?rd21n0
          case id21n0 => (simp only [gA, gZ]; rfl)
          case qd21n0 => exact fun _ _ _ h => h
          case yd21n0 => exact .inl ⟨by rfl, by (intro w hSw; obtain ⟨⟨lo0, lo1⟩, ⟨J0, J1, J2, J3⟩, ⟨T0, T1, T2, T3⟩, ⟨N0, N1, N2, N3⟩, -⟩ := HF.out w hSw; go_simp; try with_reducible rfl)⟩
          (try simp only [Act.put, pA, pZ, pS])
          refine tG (i := 1) (o := ?od21n1) (v := ?vd21n1) growsB ?id21n1 (by kernel_rfl) ?qd21n1 ?yd21n1 ?rd21n1
          case id21n1 => (simp only [gA, gS, gZ]; rfl)
          case qd21n1 => exact fun _ _ _ h => h
          case yd21n1 => exact .inl ⟨by rfl, by (intro w hSw; obtain ⟨⟨lo0, lo1⟩, ⟨J0, J1, J2, J3⟩, ⟨T0, T1, T2, T3⟩, ⟨N0, N1, N2, N3⟩, -⟩ := HF.out w hSw; go_simp; try with_reducible rfl)⟩
          (try simp only [Act.put, pA, pZ, pS])
          refine tG (i := 2) (o := ?od21n2) (v := ?vd21n2) growsB ?id21n2 (by kernel_rfl) ?qd21n2 ?yd21n2 ?rd21n2
          case id21n2 => (simp only [gA, gS, gZ]; rfl)
          case qd21n2 => exact fun _ _ _ h => h
          case yd21n2 => exact .inl ⟨by rfl, by (intro w hSw; obtain ⟨⟨lo0, lo1⟩, ⟨J0, J1, J2, J3⟩, ⟨T0, T1, T2, T3⟩, ⟨N0, N1, N2, N3⟩, -⟩ := HF.out w hSw; go_simp; try with_reducible rfl)⟩
          (try simp only [Act.put, pA, pZ, pS])
          refine tG (i := 3) (o := ?od21n3) (v := ?vd21n3) growsB ?id21n3 (by kernel_rfl) ?qd21n3 ?yd21n3 ?rd21n3
          case id21n3 => (simp only [gA, gS, gZ]; rfl)
          case qd21n3 => exact fun _ _ _ h => h
          case yd21n3 => exact .inl ⟨by rfl, by (intro w hSw; obtain ⟨⟨lo0, lo1⟩, ⟨J0, J1, J2, J3⟩, ⟨T0, T1, T2, T3⟩, ⟨N0, N1, N2, N3⟩, -⟩ := HF.out w hSw; go_simp; try with_reducible rfl)⟩
          (try simp only [Act.put, pA, pZ, pS])
          refine tG (i := 4) (o := ?od21n4) (v := ?vd21n4) growsB ?id21n4 (by kernel_rfl) ?qd21n4 ?yd21n4 ?rd21n4
          case id21n4 => (simp only [gA, gS, gZ]; rfl)
          case qd21n4 => exact fun _ _ _ h => h
          case yd21n4 => exact .inl ⟨by rfl, by (intro w hSw; obtain ⟨⟨lo0, lo1⟩, ⟨J0, J1, J2, J3⟩, ⟨T0, T1, T2, T3⟩, ⟨N0, N1, N2, N3⟩, -⟩ := HF.out w hSw; go_simp; try with_reducible rfl)⟩
          (try simp only [Act.put, pA, pZ, pS])
          refine tG (i := 5) (o := ?od21n5) (v := ?vd21n5) growsB ?id21n5 (by kernel_rfl) ?qd21n5 ?yd21n5 ?rd21n5
          case id21n5 => (simp only [gA, gS, gZ]; rfl)
          case qd21n5 => exact fun _ _ _ h => h
          case yd21n5 => exact .inl ⟨by rfl, by (intro w hSw; obtain ⟨⟨lo0, lo1⟩, ⟨J0, J1, J2, J3⟩, ⟨T0, T1, T2, T3⟩, ⟨N0, N1, N2, N3⟩, -⟩ := HF.out w hSw; go_simp; try with_reducible rfl)⟩
          (try simp only [Act.put, pA, pZ, pS])
          refine tG (i := 6) (o := ?od21n6) (v := ?vd21n6) growsB ?id21n6 (by kernel_rfl) ?qd21n6 ?yd21n6 ?rd21n6
          case id21n6 => (simp only [gA, gS, gZ]; rfl)
          case qd21n6 => exact fun _ _ _ h => h
          case yd21n6 => exact .inl ⟨by rfl, by (intro w hSw; obtain ⟨⟨lo0, lo1⟩, ⟨J0, J1, J2, J3⟩, ⟨T0, T1, T2, T3⟩, ⟨N0, N1, N2, N3⟩, -⟩ := HF.out w hSw; go_simp; try with_reducible rfl)⟩
          (try simp only [Act.put, pA, pZ, pS])
          refine tG (i := 7) (o := ?od21n7) (v := ?vd21n7) growsB ?id21n7 (by kernel_rfl) ?qd21n7 ?yd21n7 ?rd21n7
          case id21n7 => (simp only [gA, gS, gZ]; rfl)
          case qd21n7 => exact fun _ _ _ h => h
          case yd21n7 => exact .inl ⟨by rfl, by (intro w hSw; obtain ⟨⟨lo0, lo1⟩, ⟨J0, J1, J2, J3⟩, ⟨T0, T1, T2, T3⟩, ⟨N0, N1, N2, N3⟩, -⟩ := HF.out w hSw; go_simp; try with_reducible rfl)⟩
          (try simp only [Act.put, pA, pZ, pS])
          refine tG (i := 8) (o := ?od21n8) (v := ?vd21n8) growsB ?id21n8 (by kernel_rfl) ?qd21n8 ?yd21n8 ?rd21n8
          case id21n8 => (simp only [gA, gS, gZ]; rfl)
          case qd21n8 => exact fun _ _ _ h => h
          case yd21n8 => exact .inl ⟨by rfl, by (intro w hSw; obtain ⟨⟨lo0, lo1⟩, ⟨J0, J1, J2, J3⟩, ⟨T0, T1, T2, T3⟩, ⟨N0, N1, N2, N3⟩, -⟩ := HF.out w hSw; go_simp; try with_reducible rfl)⟩
          (try simp only [Act.put, pA, pZ, pS])
          refine cG (i := 9) (o := ?od21n9) growsB ?id21n9 (by kernel_rfl) ?qd21n9 ?wd21n9 ?ed21n9 (fun X hX => callO G4.out hX) ?rd21n9
          case id21n9 => (simp only [gA, gS, gZ]; rfl)
          case qd21n9 => exact fun _ _ _ h => h
          case wd21n9 => rfl
          case ed21n9 => (intro w; go_simp; try with_reducible rfl)
          (try simp only [Act.put, pA, pZ, pS])
          refine tG (i := 10) (o := ?od21n10) (v := ?vd21n10) growsB ?id21n10 (by kernel_rfl) ?qd21n10 ?yd21n10 ?rd21n10
          case id21n10 => (simp only [gA, gS, gZ]; rfl)
          case qd21n10 => exact fun _ _ _ h => h
          case yd21n10 => exact .inl ⟨by rfl, by (intro w hSw; obtain ⟨⟨lo0, lo1⟩, ⟨J0, J1, J2, J3⟩, ⟨T0, T1, T2, T3⟩, ⟨N0, N1, N2, N3⟩, -⟩ := HF.out w hSw; go_simp; try with_reducible rfl)⟩
          (try simp only [Act.put, pA, pZ, pS])
          refine wpAnyG_done (by kernel_rfl) ?_ _
          (try clear hX)
          intro w9 hX hT
          clear HF
          have oc := hX
          clear hX hT
          generalize w9 = V56 at *
          have ocY := oc
          have hlo' := hlo.below llo ocY.2
          have llo' := Nat.lt_of_lt_of_le llo ocY.2.size
          have hJ' := hJ.below lJ ocY.2
          have lJ' := Nat.lt_of_lt_of_le lJ ocY.2.size
          have hT' := hT.below lT ocY.2
          have lT' := Nat.lt_of_lt_of_le lT ocY.2.size
          have hN' := hN.below lN ocY.2
          have lN' := Nat.lt_of_lt_of_le lN ocY.2.size
          (try clear lo0 lo1 J0 J1 J2 J3 yJ0 yJ1 yJ2 yJ3 T0 T1 T2 T3 N0 N1 N2 N3)
          have oo' := oo.step ocY.2
          clear ocY oo oc hlo llo hJ lJ hT lT hN lN
          have hlo := hlo'
          have llo := llo'
          clear hlo' llo'
          have hJ := hJ'
          have lJ := lJ'
          clear hJ' lJ'
          have hT := hT'
          have lT := lT'
          clear hT' lT'
          have hN := hN'
          have lN := lN'
          clear hN' lN'
          have oo := oo'
          clear oo'
          have oc := Ok.refl oo.1
          obtain ⟨lo0, lo1⟩ := (id hlo).duo
          obtain ⟨J0, J1, J2, J3⟩ := (id hJ).quad; have yJ0 := (id hJ).frozen 0; have yJ1 := (id hJ).frozen 1; have yJ2 := (id hJ).frozen 2; have yJ3 := (id hJ).frozen 3
          obtain ⟨T0, T1, T2, T3⟩ := (id hT).quad
          obtain ⟨N0, N1, N2, N3⟩ := (id hN).quad
          go_wp2_with fail
          go_roundw
          case rel => exact ⟨2, 0, 0, 0, 0, by omega, by omega, rfl, ⟨hJ, lJ⟩, ⟨hlo, llo⟩, ⟨hT, lT⟩, ⟨hN, lN⟩, oo⟩
          case measure => simp [intOf]
        · skip
          have oc := Ok.refl oo.1
          obtain ⟨lo0, lo1⟩ := (id hlo).duo
          obtain ⟨J0, J1, J2, J3⟩ := (id hJ).quad; have yJ0 := (id hJ).frozen 0; have yJ1 := (id hJ).frozen 1; have yJ2 := (id hJ).frozen 2; have yJ3 := (id hJ).frozen 3
          obtain ⟨T0, T1, T2, T3⟩ := (id hT).quad
          obtain ⟨N0, N1, N2, N3⟩ := (id hN).quad
          go_upto_region 24 with (go_at_call 31; ((with_reducible refine (Pp3.out _ _ (oc.step (by go_grown))).mono ?_); rintro e1 w2 ⟨rfl, hk⟩; (try clear oc); have oc := hk; clear hk; (try clear lo0 lo1); have clo := hlo.below llo oc.2; obtain ⟨lo0, lo1⟩ := clo.duo; clear clo; (try clear J0 J1 J2 J3 yJ0 yJ1 yJ2 yJ3); have cJ := hJ.below lJ oc.2; obtain ⟨J0, J1, J2, J3⟩ := cJ.quad; have yJ0 := cJ.frozen 0; have yJ1 := cJ.frozen 1; have yJ2 := cJ.frozen 2; have yJ3 := cJ.frozen 3; clear cJ; (try clear T0 T1 T2 T3); have cT := hT.below lT oc.2; obtain ⟨T0, T1, T2, T3⟩ := cT.quad; clear cT; (try clear N0 N1 N2 N3); have cN := hN.below lN oc.2; obtain ⟨N0, N1, N2, N3⟩ := cN.quad; clear cN))
          have clo := hlo.below llo oc.2
          have llo' : glo < (set4 w2 gJ 0 0 0 0).heap.size := by rw [size_set4]; exact Nat.lt_of_lt_of_le llo oc.2.size
          have hlo' := (heap_set4_ne dloJ 0 0 0 0).trans clo
          have cJ := hJ.below lJ oc.2
          have lJ' : gJ < (set4 w2 gJ 0 0 0 0).heap.size := by rw [size_set4]; exact Nat.lt_of_lt_of_le lJ oc.2.size
          have hJ' := cJ.store 0 0 0 0
          have cT := hT.below lT oc.2
          have lT' : gT < (set4 w2 gJ 0 0 0 0).heap.size := by rw [size_set4]; exact Nat.lt_of_lt_of_le lT oc.2.size
          have hT' := (heap_set4_ne dJT.symm 0 0 0 0).trans cT
          have cN := hN.below lN oc.2
          have lN' : gN < (set4 w2 gJ 0 0 0 0).heap.size := by rw [size_set4]; exact Nat.lt_of_lt_of_le lN oc.2.size
          have hN' := (heap_set4_ne dJN.symm 0 0 0 0).trans cN
          have oo' : Ok w (set4 w2 gJ 0 0 0 0) := (oo.step oc.2).low' (set4_below (oo.step oc.2).2 eJ 0 0 0 0)
          (try clear lo0 lo1 J0 J1 J2 J3 yJ0 yJ1 yJ2 yJ3 T0 T1 T2 T3 N0 N1 N2 N3)
          clear oo oc hlo llo clo hJ lJ cJ hT lT cT hN lN cN
          change Code.wp _ _ _ _ (set4 w2 gJ 0 0 0 0)
          generalize set4 w2 gJ 0 0 0 0 = V75 at *
          have hlo : BkE V75 glo (-1) 0 := hlo'
          have llo := llo'
          clear hlo' llo'
          have hJ : BkU V75 gJ 0 0 0 0 := hJ'
          have lJ := lJ'
          clear hJ' lJ'
          have hT : BkS4 V75 gT (⟨#[45, 105, 110, 102, 46, 46, 45, 51]⟩) (⟨#[53, 46, 46, 51]⟩) (⟨#[105, 110, 102, 46, 46, 105, 110, 102]⟩) (⟨#[49, 46, 46, 46, 51]⟩) := hT'
          have lT := lT'
          clear hT' lT'
          have hN : BkI4 V75 gN 0 12 4 5 := hN'
          have lN := lN'
          clear hN' lN'
          have oo := oo'
          clear oo'
          have oc := Ok.refl oo.1
          obtain ⟨lo0, lo1⟩ := (id hlo).duo
          obtain ⟨J0, J1, J2, J3⟩ := (id hJ).quad; have yJ0 := (id hJ).frozen 0; have yJ1 := (id hJ).frozen 1; have yJ2 := (id hJ).frozen 2; have yJ3 := (id hJ).frozen 3
          obtain ⟨T0, T1, T2, T3⟩ := (id hT).quad
          obtain ⟨N0, N1, N2, N3⟩ := (id hN).quad
          (try clear lo0 lo1 J0 J1 J2 J3 yJ0 yJ1 yJ2 yJ3 T0 T1 T2 T3 N0 N1 N2 N3)
          have HF := Lib.hid (fun X (h : Ok V75 X) => And.intro (hlo.below llo h.2).duo (And.intro (hJ.below lJ h.2).quad (And.intro (hT.below lT h.2).quad (And.intro (hN.below lN h.2).quad (trivial)))))
          refine wp_region_G (S := (Ok V75)) (by kernel_rfl) growsB (oc.step (by go_grown)) ?_
          refine tG (i := 0) (o := ?od31n0) (v := ?vd31n0) growsB ?id31n0 (by kernel_rfl) ?qd31n0 ?yd31n0 ?rd31n0
          case id31n0 => (simp only [gA, gZ]; rfl)
          case qd31n0 => exact fun _ _ _ h => h
          case yd31n0 => exact .inl ⟨by rfl, by (intro w hSw; obtain ⟨⟨lo0, lo1⟩, ⟨J0, J1, J2, J3⟩, ⟨T0, T1, T2, T3⟩, ⟨N0, N1, N2, N3⟩, -⟩ := HF.out w hSw; go_simp; try with_reducible rfl)⟩
          (try simp only [Act.put, pA, pZ, pS])
          refine tG (i := 1) (o := ?od31n1) (v := ?vd31n1) growsB ?id31n1 (by kernel_rfl) ?qd31n1 ?yd31n1 ?rd31n1
          case id31n1 => (simp only [gA, gS, gZ]; rfl)
          case qd31n1 => exact fun _ _ _ h => h
          case yd31n1 => exact .inl ⟨by rfl, by (intro w hSw; obtain ⟨⟨lo0, lo1⟩, ⟨J0, J1, J2, J3⟩, ⟨T0, T1, T2, T3⟩, ⟨N0, N1, N2, N3⟩, -⟩ := HF.out w hSw; go_simp; try with_reducible rfl)⟩
          (try simp only [Act.put, pA, pZ, pS])
          refine tG (i := 2) (o := ?od31n2) (v := ?vd31n2) growsB ?id31n2 (by kernel_rfl) ?qd31n2 ?yd31n2 ?rd31n2
          case id31n2 => (simp only [gA, gS, gZ]; rfl)
          case qd31n2 => exact fun _ _ _ h => h
          case yd31n2 => exact .inl ⟨by rfl, by (intro w hSw; obtain ⟨⟨lo0, lo1⟩, ⟨J0, J1, J2, J3⟩, ⟨T0, T1, T2, T3⟩, ⟨N0, N1, N2, N3⟩, -⟩ := HF.out w hSw; go_simp; try with_reducible rfl)⟩
          (try simp only [Act.put, pA, pZ, pS])
          refine tG (i := 3) (o := ?od31n3) (v := ?vd31n3) growsB ?id31n3 (by kernel_rfl) ?qd31n3 ?yd31n3 ?rd31n3
          case id31n3 => (simp only [gA, gS, gZ]; rfl)
          case qd31n3 => exact fun _ _ _ h => h
          case yd31n3 => exact .inl ⟨by rfl, by (intro w hSw; obtain ⟨⟨lo0, lo1⟩, ⟨J0, J1, J2, J3⟩, ⟨T0, T1, T2, T3⟩, ⟨N0, N1, N2, N3⟩, -⟩ := HF.out w hSw; go_simp; try with_reducible rfl)⟩
          (try simp only [Act.put, pA, pZ, pS])
          refine tG (i := 4) (o := ?od31n4) (v := ?vd31n4) growsB ?id31n4 (by kernel_rfl) ?qd31n4 ?yd31n4 ?rd31n4
          case id31n4 => (simp only [gA, gS, gZ]; rfl)
          case qd31n4 => exact fun _ _ _ h => h
          case yd31n4 => exact .inl ⟨by rfl, by (intro w hSw; obtain ⟨⟨lo0, lo1⟩, ⟨J0, J1, J2, J3⟩, ⟨T0, T1, T2, T3⟩, ⟨N0, N1, N2, N3⟩, -⟩ := HF.out w hSw; go_simp; try with_reducible rfl)⟩
          (try simp only [Act.put, pA, pZ, pS])
          refine tG (i := 5) (o := ?od31n5) (v := ?vd31n5) growsB ?id31n5 (by kernel_rfl) ?qd31n5 ?yd31n5 ?rd31n5
          case id31n5 => (simp only [gA, gS, gZ]; rfl)
          case qd31n5 => exact fun _ _ _ h => h
          case yd31n5 => exact .inl ⟨by rfl, by (intro w hSw; obtain ⟨⟨lo0, lo1⟩, ⟨J0, J1, J2, J3⟩, ⟨T0, T1, T2, T3⟩, ⟨N0, N1, N2, N3⟩, -⟩ := HF.out w hSw; go_simp; try with_reducible rfl)⟩
          (try simp only [Act.put, pA, pZ, pS])
          refine tG (i := 6) (o := ?od31n6) (v := ?vd31n6) growsB ?id31n6 (by kernel_rfl) ?qd31n6 ?yd31n6 ?rd31n6
          case id31n6 => (simp only [gA, gS, gZ]; rfl)
          case qd31n6 => exact fun _ _ _ h => h
          case yd31n6 => exact .inl ⟨by rfl, by (intro w hSw; obtain ⟨⟨lo0, lo1⟩, ⟨J0, J1, J2, J3⟩, ⟨T0, T1, T2, T3⟩, ⟨N0, N1, N2, N3⟩, -⟩ := HF.out w hSw; go_simp; try with_reducible rfl)⟩
          (try simp only [Act.put, pA, pZ, pS])
          refine tG (i := 7) (o := ?od31n7) (v := ?vd31n7) growsB ?id31n7 (by kernel_rfl) ?qd31n7 ?yd31n7 ?rd31n7
          case id31n7 => (simp only [gA, gS, gZ]; rfl)
          case qd31n7 => exact fun _ _ _ h => h
          case yd31n7 => exact .inl ⟨by rfl, by (intro w hSw; obtain ⟨⟨lo0, lo1⟩, ⟨J0, J1, J2, J3⟩, ⟨T0, T1, T2, T3⟩, ⟨N0, N1, N2, N3⟩, -⟩ := HF.out w hSw; go_simp; try with_reducible rfl)⟩
          (try simp only [Act.put, pA, pZ, pS])
          refine tG (i := 8) (o := ?od31n8) (v := ?vd31n8) growsB ?id31n8 (by kernel_rfl) ?qd31n8 ?yd31n8 ?rd31n8
          case id31n8 => (simp only [gA, gS, gZ]; rfl)
          case qd31n8 => exact fun _ _ _ h => h
          case yd31n8 => exact .inl ⟨by rfl, by (intro w hSw; obtain ⟨⟨lo0, lo1⟩, ⟨J0, J1, J2, J3⟩, ⟨T0, T1, T2, T3⟩, ⟨N0, N1, N2, N3⟩, -⟩ := HF.out w hSw; go_simp; try with_reducible rfl)⟩
          (try simp only [Act.put, pA, pZ, pS])
          refine cG (i := 9) (o := ?od31n9) growsB ?id31n9 (by kernel_rfl) ?qd31n9 ?wd31n9 ?ed31n9 (fun X hX => callO G5.out hX) ?rd31n9
          case id31n9 => (simp only [gA, gS, gZ]; rfl)
          case qd31n9 => exact fun _ _ _ h => h
          case wd31n9 => rfl
          case ed31n9 => (intro w; go_simp; try with_reducible rfl)
          (try simp only [Act.put, pA, pZ, pS])
          refine tG (i := 10) (o := ?od31n10) (v := ?vd31n10) growsB ?id31n10 (by kernel_rfl) ?qd31n10 ?yd31n10 ?rd31n10
          case id31n10 => (simp only [gA, gS, gZ]; rfl)
          case qd31n10 => exact fun _ _ _ h => h
          case yd31n10 => exact .inl ⟨by rfl, by (intro w hSw; obtain ⟨⟨lo0, lo1⟩, ⟨J0, J1, J2, J3⟩, ⟨T0, T1, T2, T3⟩, ⟨N0, N1, N2, N3⟩, -⟩ := HF.out w hSw; go_simp; try with_reducible rfl)⟩
          (try simp only [Act.put, pA, pZ, pS])
          refine wpAnyG_done (by kernel_rfl) ?_ _
          (try clear hX)
          intro w9 hX hT
          clear HF
          have oc := hX
          clear hX hT
          generalize w9 = V76 at *
          have ocY := oc
          have hlo' := hlo.below llo ocY.2
          have llo' := Nat.lt_of_lt_of_le llo ocY.2.size
          have hJ' := hJ.below lJ ocY.2
          have lJ' := Nat.lt_of_lt_of_le lJ ocY.2.size
          have hT' := hT.below lT ocY.2
          have lT' := Nat.lt_of_lt_of_le lT ocY.2.size
          have hN' := hN.below lN ocY.2
          have lN' := Nat.lt_of_lt_of_le lN ocY.2.size
          (try clear lo0 lo1 J0 J1 J2 J3 yJ0 yJ1 yJ2 yJ3 T0 T1 T2 T3 N0 N1 N2 N3)
          have oo' := oo.step ocY.2
          clear ocY oo oc hlo llo hJ lJ hT lT hN lN
          have hlo := hlo'
          have llo := llo'
          clear hlo' llo'
          have hJ := hJ'
          have lJ := lJ'
          clear hJ' lJ'
          have hT := hT'
          have lT := lT'
          clear hT' lT'
          have hN := hN'
          have lN := lN'
          clear hN' lN'
          have oo := oo'
          clear oo'
          have oc := Ok.refl oo.1
          obtain ⟨lo0, lo1⟩ := (id hlo).duo
          obtain ⟨J0, J1, J2, J3⟩ := (id hJ).quad; have yJ0 := (id hJ).frozen 0; have yJ1 := (id hJ).frozen 1; have yJ2 := (id hJ).frozen 2; have yJ3 := (id hJ).frozen 3
          obtain ⟨T0, T1, T2, T3⟩ := (id hT).quad
          obtain ⟨N0, N1, N2, N3⟩ := (id hN).quad
          go_wp2_with fail
          go_roundw
          case rel => exact ⟨3, 0, 0, 0, 0, by omega, by omega, rfl, ⟨hJ, lJ⟩, ⟨hlo, llo⟩, ⟨hT, lT⟩, ⟨hN, lN⟩, oo⟩
          case measure => simp [intOf]
        · skip
          have oc := Ok.refl oo.1
          obtain ⟨lo0, lo1⟩ := (id hlo).duo
          obtain ⟨J0, J1, J2, J3⟩ := (id hJ).quad; have yJ0 := (id hJ).frozen 0; have yJ1 := (id hJ).frozen 1; have yJ2 := (id hJ).frozen 2; have yJ3 := (id hJ).frozen 3
          obtain ⟨T0, T1, T2, T3⟩ := (id hT).quad
          obtain ⟨N0, N1, N2, N3⟩ := (id hN).quad
          go_upto_region 24 with (go_at_call 31; ((with_reducible refine (Pp4.out _ _ (oc.step (by go_grown))).mono ?_); rintro e1 w2 ⟨rfl, hk⟩; (try clear oc); have oc := hk; clear hk; (try clear lo0 lo1); have clo := hlo.below llo oc.2; obtain ⟨lo0, lo1⟩ := clo.duo; clear clo; (try clear J0 J1 J2 J3 yJ0 yJ1 yJ2 yJ3); have cJ := hJ.below lJ oc.2; obtain ⟨J0, J1, J2, J3⟩ := cJ.quad; have yJ0 := cJ.frozen 0; have yJ1 := cJ.frozen 1; have yJ2 := cJ.frozen 2; have yJ3 := cJ.frozen 3; clear cJ; (try clear T0 T1 T2 T3); have cT := hT.below lT oc.2; obtain ⟨T0, T1, T2, T3⟩ := cT.quad; clear cT; (try clear N0 N1 N2 N3); have cN := hN.below lN oc.2; obtain ⟨N0, N1, N2, N3⟩ := cN.quad; clear cN))
          have clo := hlo.below llo oc.2
          have llo' : glo < (set4 w2 gJ 0 0 0 0).heap.size := by rw [size_set4]; exact Nat.lt_of_lt_of_le llo oc.2.size
          have hlo' := (heap_set4_ne dloJ 0 0 0 0).trans clo
          have cJ := hJ.below lJ oc.2
          have lJ' : gJ < (set4 w2 gJ 0 0 0 0).heap.size := by rw [size_set4]; exact Nat.lt_of_lt_of_le lJ oc.2.size
          have hJ' := cJ.store 0 0 0 0
          have cT := hT.below lT oc.2
          have lT' : gT < (set4 w2 gJ 0 0 0 0).heap.size := by rw [size_set4]; exact Nat.lt_of_lt_of_le lT oc.2.size
          have hT' := (heap_set4_ne dJT.symm 0 0 0 0).trans cT
          have cN := hN.below lN oc.2
          have lN' : gN < (set4 w2 gJ 0 0 0 0).heap.size := by rw [size_set4]; exact Nat.lt_of_lt_of_le lN oc.2.size
          have hN' := (heap_set4_ne dJN.symm 0 0 0 0).trans cN
          have oo' : Ok w (set4 w2 gJ 0 0 0 0) := (oo.step oc.2).low' (set4_below (oo.step oc.2).2 eJ 0 0 0 0)
          (try clear lo0 lo1 J0 J1 J2 J3 yJ0 yJ1 yJ2 yJ3 T0 T1 T2 T3 N0 N1 N2 N3)
          clear oo oc hlo llo clo hJ lJ cJ hT lT cT hN lN cN
          change Code.wp _ _ _ _ (set4 w2 gJ 0 0 0 0)
          generalize set4 w2 gJ 0 0 0 0 = V95 at *
          have hlo : BkE V95 glo (-1) 0 := hlo'
          have llo := llo'
          clear hlo' llo'
          have hJ : BkU V95 gJ 0 0 0 0 := hJ'
          have lJ := lJ'
          clear hJ' lJ'
          have hT : BkS4 V95 gT (⟨#[45, 105, 110, 102, 46, 46, 45, 51]⟩) (⟨#[53, 46, 46, 51]⟩) (⟨#[105, 110, 102, 46, 46, 105, 110, 102]⟩) (⟨#[49, 46, 46, 46, 51]⟩) := hT'
          have lT := lT'
          clear hT' lT'
          have hN : BkI4 V95 gN 0 12 4 5 := hN'
          have lN := lN'
          clear hN' lN'
          have oo := oo'
          clear oo'
          have oc := Ok.refl oo.1
          obtain ⟨lo0, lo1⟩ := (id hlo).duo
          obtain ⟨J0, J1, J2, J3⟩ := (id hJ).quad; have yJ0 := (id hJ).frozen 0; have yJ1 := (id hJ).frozen 1; have yJ2 := (id hJ).frozen 2; have yJ3 := (id hJ).frozen 3
          obtain ⟨T0, T1, T2, T3⟩ := (id hT).quad
          obtain ⟨N0, N1, N2, N3⟩ := (id hN).quad
          (try clear lo0 lo1 J0 J1 J2 J3 yJ0 yJ1 yJ2 yJ3 T0 T1 T2 T3 N0 N1 N2 N3)
          have HF := Lib.hid (fun X (h : Ok V95 X) => And.intro (hlo.below llo h.2).duo (And.intro (hJ.below lJ h.2).quad (And.intro (hT.below lT h.2).quad (And.intro (hN.below lN h.2).quad (trivial)))))
          refine wp_region_G (S := (Ok V95)) (by kernel_rfl) growsB (oc.step (by go_grown)) ?_
          refine tG (i := 0) (o := ?od41n0) (v := ?vd41n0) growsB ?id41n0 (by kernel_rfl) ?qd41n0 ?yd41n0 ?rd41n0
          case id41n0 => (simp only [gA, gZ]; rfl)
          case qd41n0 => exact fun _ _ _ h => h
          case yd41n0 => exact .inl ⟨by rfl, by (intro w hSw; obtain ⟨⟨lo0, lo1⟩, ⟨J0, J1, J2, J3⟩, ⟨T0, T1, T2, T3⟩, ⟨N0, N1, N2, N3⟩, -⟩ := HF.out w hSw; go_simp; try with_reducible rfl)⟩
          (try simp only [Act.put, pA, pZ, pS])
          refine tG (i := 1) (o := ?od41n1) (v := ?vd41n1) growsB ?id41n1 (by kernel_rfl) ?qd41n1 ?yd41n1 ?rd41n1
          case id41n1 => (simp only [gA, gS, gZ]; rfl)
          case qd41n1 => exact fun _ _ _ h => h
          case yd41n1 => exact .inl ⟨by rfl, by (intro w hSw; obtain ⟨⟨lo0, lo1⟩, ⟨J0, J1, J2, J3⟩, ⟨T0, T1, T2, T3⟩, ⟨N0, N1, N2, N3⟩, -⟩ := HF.out w hSw; go_simp; try with_reducible rfl)⟩
          (try simp only [Act.put, pA, pZ, pS])
          refine tG (i := 2) (o := ?od41n2) (v := ?vd41n2) growsB ?id41n2 (by kernel_rfl) ?qd41n2 ?yd41n2 ?rd41n2
          case id41n2 => (simp only [gA, gS, gZ]; rfl)
          case qd41n2 => exact fun _ _ _ h => h
          case yd41n2 => exact .inl ⟨by rfl, by (intro w hSw; obtain ⟨⟨lo0, lo1⟩, ⟨J0, J1, J2, J3⟩, ⟨T0, T1, T2, T3⟩, ⟨N0, N1, N2, N3⟩, -⟩ := HF.out w hSw; go_simp; try with_reducible rfl)⟩
          (try simp only [Act.put, pA, pZ, pS])
          refine tG (i := 3) (o := ?od41n3) (v := ?vd41n3) growsB ?id41n3 (by kernel_rfl) ?qd41n3 ?yd41n3 ?rd41n3
          case id41n3 => (simp only [gA, gS, gZ]; rfl)
          case qd41n3 => exact fun _ _ _ h => h
          case yd41n3 => exact .inl ⟨by rfl, by (intro w hSw; obtain ⟨⟨lo0, lo1⟩, ⟨J0, J1, J2, J3⟩, ⟨T0, T1, T2, T3⟩, ⟨N0, N1, N2, N3⟩, -⟩ := HF.out w hSw; go_simp; try with_reducible rfl)⟩
          (try simp only [Act.put, pA, pZ, pS])
          refine tG (i := 4) (o := ?od41n4) (v := ?vd41n4) growsB ?id41n4 (by kernel_rfl) ?qd41n4 ?yd41n4 ?rd41n4
          case id41n4 => (simp only [gA, gS, gZ]; rfl)
          case qd41n4 => exact fun _ _ _ h => h
          case yd41n4 => exact .inl ⟨by rfl, by (intro w hSw; obtain ⟨⟨lo0, lo1⟩, ⟨J0, J1, J2, J3⟩, ⟨T0, T1, T2, T3⟩, ⟨N0, N1, N2, N3⟩, -⟩ := HF.out w hSw; go_simp; try with_reducible rfl)⟩
          (try simp only [Act.put, pA, pZ, pS])
          refine tG (i := 5) (o := ?od41n5) (v := ?vd41n5) growsB ?id41n5 (by kernel_rfl) ?qd41n5 ?yd41n5 ?rd41n5
          case id41n5 => (simp only [gA, gS, gZ]; rfl)
          case qd41n5 => exact fun _ _ _ h => h
          case yd41n5 => exact .inl ⟨by rfl, by (intro w hSw; obtain ⟨⟨lo0, lo1⟩, ⟨J0, J1, J2, J3⟩, ⟨T0, T1, T2, T3⟩, ⟨N0, N1, N2, N3⟩, -⟩ := HF.out w hSw; go_simp; try with_reducible rfl)⟩
          (try simp only [Act.put, pA, pZ, pS])
          refine tG (i := 6) (o := ?od41n6) (v := ?vd41n6) growsB ?id41n6 (by kernel_rfl) ?qd41n6 ?yd41n6 ?rd41n6
          case id41n6 => (simp only [gA, gS, gZ]; rfl)
          case qd41n6 => exact fun _ _ _ h => h
          case yd41n6 => exact .inl ⟨by rfl, by (intro w hSw; obtain ⟨⟨lo0, lo1⟩, ⟨J0, J1, J2, J3⟩, ⟨T0, T1, T2, T3⟩, ⟨N0, N1, N2, N3⟩, -⟩ := HF.out w hSw; go_simp; try with_reducible rfl)⟩
          (try simp only [Act.put, pA, pZ, pS])
          refine tG (i := 7) (o := ?od41n7) (v := ?vd41n7) growsB ?id41n7 (by kernel_rfl) ?qd41n7 ?yd41n7 ?rd41n7
          case id41n7 => (simp only [gA, gS, gZ]; rfl)
          case qd41n7 => exact fun _ _ _ h => h
          case yd41n7 => exact .inl ⟨by rfl, by (intro w hSw; obtain ⟨⟨lo0, lo1⟩, ⟨J0, J1, J2, J3⟩, ⟨T0, T1, T2, T3⟩, ⟨N0, N1, N2, N3⟩, -⟩ := HF.out w hSw; go_simp; try with_reducible rfl)⟩
          (try simp only [Act.put, pA, pZ, pS])
          refine tG (i := 8) (o := ?od41n8) (v := ?vd41n8) growsB ?id41n8 (by kernel_rfl) ?qd41n8 ?yd41n8 ?rd41n8
          case id41n8 => (simp only [gA, gS, gZ]; rfl)
          case qd41n8 => exact fun _ _ _ h => h
          case yd41n8 => exact .inl ⟨by rfl, by (intro w hSw; obtain ⟨⟨lo0, lo1⟩, ⟨J0, J1, J2, J3⟩, ⟨T0, T1, T2, T3⟩, ⟨N0, N1, N2, N3⟩, -⟩ := HF.out w hSw; go_simp; try with_reducible rfl)⟩
          (try simp only [Act.put, pA, pZ, pS])
          refine cG (i := 9) (o := ?od41n9) growsB ?id41n9 (by kernel_rfl) ?qd41n9 ?wd41n9 ?ed41n9 (fun X hX => callO G6.out hX) ?rd41n9
          case id41n9 => (simp only [gA, gS, gZ]; rfl)
          case qd41n9 => exact fun _ _ _ h => h
          case wd41n9 => rfl
          case ed41n9 => (intro w; go_simp; try with_reducible rfl)
          (try simp only [Act.put, pA, pZ, pS])
          refine tG (i := 10) (o := ?od41n10) (v := ?vd41n10) growsB ?id41n10 (by kernel_rfl) ?qd41n10 ?yd41n10 ?rd41n10
          case id41n10 => (simp only [gA, gS, gZ]; rfl)
          case qd41n10 => exact fun _ _ _ h => h
          case yd41n10 => exact .inl ⟨by rfl, by (intro w hSw; obtain ⟨⟨lo0, lo1⟩, ⟨J0, J1, J2, J3⟩, ⟨T0, T1, T2, T3⟩, ⟨N0, N1, N2, N3⟩, -⟩ := HF.out w hSw; go_simp; try with_reducible rfl)⟩
          (try simp only [Act.put, pA, pZ, pS])
          refine wpAnyG_done (by kernel_rfl) ?_ _
          (try clear hX)
          intro w9 hX hT
          clear HF
          have oc := hX
          clear hX hT
          generalize w9 = V96 at *
          have ocY := oc
          have hlo' := hlo.below llo ocY.2
          have llo' := Nat.lt_of_lt_of_le llo ocY.2.size
          have hJ' := hJ.below lJ ocY.2
          have lJ' := Nat.lt_of_lt_of_le lJ ocY.2.size
          have hT' := hT.below lT ocY.2
          have lT' := Nat.lt_of_lt_of_le lT ocY.2.size
          have hN' := hN.below lN ocY.2
          have lN' := Nat.lt_of_lt_of_le lN ocY.2.size
          (try clear lo0 lo1 J0 J1 J2 J3 yJ0 yJ1 yJ2 yJ3 T0 T1 T2 T3 N0 N1 N2 N3)
          have oo' := oo.step ocY.2
          clear ocY oo oc hlo llo hJ lJ hT lT hN lN
          have hlo := hlo'
          have llo := llo'
          clear hlo' llo'
          have hJ := hJ'
          have lJ := lJ'
          clear hJ' lJ'
          have hT := hT'
          have lT := lT'
          clear hT' lT'
          have hN := hN'
          have lN := lN'
          clear hN' lN'
          have oo := oo'
          clear oo'
          have oc := Ok.refl oo.1
          obtain ⟨lo0, lo1⟩ := (id hlo).duo
          obtain ⟨J0, J1, J2, J3⟩ := (id hJ).quad; have yJ0 := (id hJ).frozen 0; have yJ1 := (id hJ).frozen 1; have yJ2 := (id hJ).frozen 2; have yJ3 := (id hJ).frozen 3
          obtain ⟨T0, T1, T2, T3⟩ := (id hT).quad
          obtain ⟨N0, N1, N2, N3⟩ := (id hN).quad
          go_wp2_with fail
          go_roundw
          case rel => exact ⟨4, 0, 0, 0, 0, by omega, by omega, rfl, ⟨hJ, lJ⟩, ⟨hlo, llo⟩, ⟨hT, lT⟩, ⟨hN, lN⟩, oo⟩
          case measure => simp [intOf]
        · skip
          go_wp2_with fail
          go_ret
          exact ⟨rfl, oo⟩
end Go.Proofs.YtmbaohjekeiphaaGreatDoor.run9
