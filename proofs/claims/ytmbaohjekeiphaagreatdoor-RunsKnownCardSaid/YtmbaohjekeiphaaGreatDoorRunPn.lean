/- The law on two runs: walks. -/
import Derived.Test.YtmbaohjekeiphaaGreatDoorLawK
namespace Go.Proofs.YtmbaohjekeiphaaGreatDoor.run9
open Go.RowKit

set_option maxRecDepth 100000 in
set_option maxHeartbeats 8000000 in
theorem pairs_n1 (i d j e k u l v n c y r0 r1 r2 r3 s0 s1 s2 s3 : Int) (h1 : Bool) (w W : World) (KL : Hid (∀ B X, Ok B X → Calls Tryz.prog 23 #[] X fun z w' => z = .returned (.bool true) ∧ Ok B w')) (KCa : Hid (∀ B X, Ok B X → Calls Tryz.prog 7 #[U4 i d j e] X fun z w' => z = .returned (.int .i64 0) ∧ Ok B w')) (KCb : Hid (∀ B X, Ok B X → Calls Tryz.prog 7 #[U4 k u l v] X fun z w' => z = .returned (.int .i64 y) ∧ Ok B w')) (KNa : Hid (∀ B X, Ok B X → Calls Tryz.prog 8 #[U4 i d j e] X fun z w' => z = .returned (.int .i64 0) ∧ Ok B w')) (KNb : Hid (∀ B X, Ok B X → Calls Tryz.prog 8 #[U4 k u l v] X fun z w' => z = .returned (.int .i64 y) ∧ Ok B w'))
    (KM1 : Hid (∀ B X, Ok B X → Calls Tryz.prog 9 #[U4 i d j e, U4 k u l v] X fun z w' => z = .returned (.int .i64 c) ∧ Ok B w')) (KM2 : Hid (∀ B X, Ok B X → Calls Tryz.prog 10 #[U4 i d j e, U4 k u l v] X fun z w' => z = .returned (.int .i64 c) ∧ Ok B w')) (KM3 : Hid (∀ B X, Ok B X → Calls Tryz.prog 9 #[U4 k u l v, U4 i d j e] X fun z w' => z = .returned (.int .i64 (-c)) ∧ Ok B w'))
    (KJ1 : Hid (∀ B X, Ok B X → Calls Tryz.prog 13 #[U4 i d j e, U4 k u l v] X fun z w' => z = .returned (.tuple #[U4 0 0 0 0, .bool false]) ∧ Ok B w')) (KJ2 : Hid (∀ B X, Ok B X → Calls Tryz.prog 13 #[U4 k u l v, U4 i d j e] X fun z w' => z = .returned (.tuple #[U4 0 0 0 0, .bool false]) ∧ Ok B w')) (KK1 : Hid (∀ B X, Ok B X → Calls Tryz.prog 14 #[U4 i d j e, U4 k u l v] X fun z w' => z = .returned (.tuple #[U4 0 0 0 0, .bool false]) ∧ Ok B w')) (KK2 : Hid (∀ B X, Ok B X → Calls Tryz.prog 14 #[U4 k u l v, U4 i d j e] X fun z w' => z = .returned (.tuple #[U4 0 0 0 0, .bool false]) ∧ Ok B w'))
    (KT1 : Hid (∀ B X, Ok B X → Calls Tryz.prog 15 #[U4 i d j e, U4 k u l v] X fun z w' => z = .returned (.bool false) ∧ Ok B w')) (KT2 : Hid (∀ B X, Ok B X → Calls Tryz.prog 15 #[U4 k u l v, U4 i d j e] X fun z w' => z = .returned (.bool false) ∧ Ok B w')) (KRJ : Hid (∀ B X, Ok B X → Calls Tryz.prog 17 #[U4 i d j e, U4 k u l v] X fun z w' => z = .returned (U4 r0 r1 r2 r3) ∧ Ok B w')) (KRK : Hid (∀ B X, Ok B X → Calls Tryz.prog 18 #[U4 i d j e, U4 k u l v] X fun z w' => z = .returned (U4 s0 s1 s2 s3) ∧ Ok B w')) (KF1 : Hid (∀ B X, Ok B X → Calls Tryz.prog 16 #[U4 0 0 0 0, .bool false, U4 r0 r1 r2 r3, .bool false] X fun z w' => z = .returned (.bool true) ∧ Ok B w')) (KF2 : Hid (∀ B X, Ok B X → Calls Tryz.prog 16 #[U4 0 0 0 0, .bool false, U4 s0 s1 s2 s3, .bool false] X fun z w' => z = .returned (.bool true) ∧ Ok B w'))
    (KW : Hid (∀ B X, Ok B X → Calls Tryz.prog 19 #[U4 i d j e, U4 k u l v] X fun z w' => z = .returned (.bool false) ∧ Ok B w')) (KHa : Hid (∀ B X, Ok B X → Calls Tryz.prog 21 #[U4 i d j e, .int .i64 n] X fun z w' => z = .returned (.bool h1) ∧ Ok B w')) (KRH : Hid (∀ B X, Ok B X → Calls Tryz.prog 22 #[U4 i d j e, .int .i64 n] X fun z w' => z = .returned (.bool h1) ∧ Ok B w'))
    (hyw : IntKind.i64.wrap y = y) (hy : (y == 0) = false) (hcw : IntKind.i64.wrap (-c) = -c) (ho : Ok w W) :
    Calls Tryz.prog 3 #[U4 i d j e, U4 k u l v, .int .i64 n] W fun e w' => e = .returned (.bool true) ∧ Ok w w' := by
  have hc1 : (c != c) = false := by simp
  have hc2 : (-c != -c) = false := by simp
  have hy1 : (y != y) = false := by simp
  have hh1 : (h1 != h1) = false := by cases h1 <;> rfl
  have ep : ∀ w, (binOp .neq 26 (U4 0 0 0 0) (U4 0 0 0 0)).run Tryz.prog w = .ok (.bool false) w := fun w => by have h := ne_any ⟨0, 0, 0, 0⟩ ⟨0, 0, 0, 0⟩ w; rw [ruEq_self] at h; exact h
  have eq2 : ∀ w, (binOp .neq 26 (U4 0 0 0 0) (U4 0 0 0 0)).run Tryz.prog w = .ok (.bool false) w := fun w => by have h := ne_any ⟨0, 0, 0, 0⟩ ⟨0, 0, 0, 0⟩ w; rw [ruEq_self] at h; exact h
  go_enter Tryz.func3, Tryz.ntmps3
  have oo := ho
  clear ho
  have oc := Ok.refl oo.1
  go_upto_region 1 with fail
  obtain ⟨hxa, zxa, txa⟩ := run_new W i d j e _ rfl
  generalize (W.alloc (Obj.cells #[Value.int IntKind.i8 i, Value.int IntKind.i64 d, Value.int IntKind.i8 j, Value.int IntKind.i64 e] 26)) = V1 at *
  have exa : w.heap.size ≤ W.heap.size := (oo.step oc.2).2.size
  have lxa : W.heap.size < V1.heap.size := by omega
  have ocY := oc.step txa
  have oo' := oo.step ocY.2
  clear ocY oo oc
  have oo := oo'
  clear oo'
  have oc := Ok.refl oo.1
  have zz1 : V1.heap.size = W.heap.size + 1 := zxa
  clear txa zxa
  obtain ⟨hxb, zxb, txb⟩ := run_new V1 k u l v _ rfl
  generalize (V1.alloc (Obj.cells #[Value.int IntKind.i8 k, Value.int IntKind.i64 u, Value.int IntKind.i8 l, Value.int IntKind.i64 v] 26)) = V2 at *
  have exb : w.heap.size ≤ V1.heap.size := (oo.step oc.2).2.size
  have lxb : V1.heap.size < V2.heap.size := by omega
  have ocY := oc.step txb
  have hxa' := hxa.below lxa ocY.2
  have lxa' := Nat.lt_of_lt_of_le lxa ocY.2.size
  (try clear xa0 xa1 xa2 xa3)
  have oo' := oo.step ocY.2
  clear ocY oo oc hxa lxa
  have hxa := hxa'
  have lxa := lxa'
  clear hxa' lxa'
  have oo := oo'
  clear oo'
  have oc := Ok.refl oo.1
  rw [zz1] at hxb lxb exb zxb
  have zz2 : V2.heap.size = W.heap.size + 1 + 1 := zxb
  clear zz1
  clear txb zxb
  (try clear zz2)
  generalize W.heap.size + 1 = gxb at *
  generalize W.heap.size = gxa at *
  (try clear xa0 xa1 xa2 xa3 xb0 xb1 xb2 xb3)
  have HF := Lib.hid (fun X (h : Ok V2 X) => And.intro (hxa.below lxa h.2).quad (And.intro (hxb.below lxb h.2).quad (trivial)))
  refine wp_region_G (S := (Ok V2)) (by kernel_rfl) growsB (oc.step (by go_grown)) ?_
  refine tG (i := 0) (o := ?od1n0) (v := ?vd1n0) growsB ?id1n0 (by kernel_rfl) ?qd1n0 ?yd1n0 ?rd1n0
  case id1n0 => (simp only [gA, gZ]; rfl)
  case qd1n0 => exact fun _ _ _ h => h
  case yd1n0 => exact .inl ⟨by rfl, by (intro w hSw; obtain ⟨⟨xa0, xa1, xa2, xa3⟩, ⟨xb0, xb1, xb2, xb3⟩, -⟩ := HF.out w hSw; go_simp; try with_reducible rfl)⟩
  (try simp only [Act.put, pA, pZ, pS])
  refine cG (i := 1) (o := ?od1n1) growsB ?id1n1 (by kernel_rfl) ?qd1n1 ?wd1n1 ?ed1n1 (fun X hX => callO KCa.out hX) ?rd1n1
  case id1n1 => (simp only [gA, gS, gZ]; rfl)
  case qd1n1 => exact fun _ _ _ h => h
  case wd1n1 => rfl
  case ed1n1 => (intro w; go_simp; try with_reducible rfl)
  (try simp only [Act.put, pA, pZ, pS])
  refine tG (i := 2) (o := ?od1n2) (v := ?vd1n2) growsB ?id1n2 (by kernel_rfl) ?qd1n2 ?yd1n2 ?rd1n2
  case id1n2 => (simp only [gA, gS, gZ]; rfl)
  case qd1n2 => exact fun _ _ _ h => h
  case yd1n2 => exact .inl ⟨by rfl, by (intro w hSw; obtain ⟨⟨xa0, xa1, xa2, xa3⟩, ⟨xb0, xb1, xb2, xb3⟩, -⟩ := HF.out w hSw; go_simp; try with_reducible rfl)⟩
  (try simp only [Act.put, pA, pZ, pS])
  refine cG (i := 3) (o := ?od1n3) growsB ?id1n3 (by kernel_rfl) ?qd1n3 ?wd1n3 ?ed1n3 (fun X hX => callO KCb.out hX) ?rd1n3
  case id1n3 => (simp only [gA, gS, gZ]; rfl)
  case qd1n3 => exact fun _ _ _ h => h
  case wd1n3 => rfl
  case ed1n3 => (intro w; go_simp; try with_reducible rfl)
  (try simp only [Act.put, pA, pZ, pS])
  refine tG (i := 4) (o := ?od1n4) (v := ?vd1n4) growsB ?id1n4 (by kernel_rfl) ?qd1n4 ?yd1n4 ?rd1n4
  case id1n4 => (simp only [gA, gS, gZ]; rfl)
  case qd1n4 => exact fun _ _ _ h => h
  case yd1n4 => exact .inl ⟨by rfl, by (intro w _; go_simp; try with_reducible rfl)⟩
  (try simp only [Act.put, pA, pZ, pS])
  refine tG (i := 5) (o := ?od1n5) (v := ?vd1n5) growsB ?id1n5 (by kernel_rfl) ?qd1n5 ?yd1n5 ?rd1n5
  case id1n5 => (simp only [gA, gS, gZ]; rfl)
  case qd1n5 => exact fun _ _ _ h => h
  case yd1n5 => exact .inl ⟨by rfl, by (intro w _; go_simp; try with_reducible rfl)⟩
  (try simp only [Act.put, pA, pZ, pS])
  refine wpAnyG_done (by kernel_rfl) ?_ _
  (try clear hX)
  intro w9 hX hT
  clear HF
  have oc := hX
  clear hX hT
  generalize w9 = V3 at *
  have ocY := oc
  have hxa' := hxa.below lxa ocY.2
  have lxa' := Nat.lt_of_lt_of_le lxa ocY.2.size
  have hxb' := hxb.below lxb ocY.2
  have lxb' := Nat.lt_of_lt_of_le lxb ocY.2.size
  (try clear xa0 xa1 xa2 xa3 xb0 xb1 xb2 xb3)
  have oo' := oo.step ocY.2
  clear ocY oo oc hxa lxa hxb lxb
  have hxa := hxa'
  have lxa := lxa'
  clear hxa' lxa'
  have hxb := hxb'
  have lxb := lxb'
  clear hxb' lxb'
  have oo := oo'
  clear oo'
  have oc := Ok.refl oo.1
  obtain ⟨xa0, xa1, xa2, xa3⟩ := (id hxa).quad
  obtain ⟨xb0, xb1, xb2, xb3⟩ := (id hxb).quad
  clear KCa KCb
  go_upto_region 2 with fail
  (try clear xa0 xa1 xa2 xa3 xb0 xb1 xb2 xb3)
  have HF := Lib.hid (fun X (h : Ok V3 X) => And.intro (hxa.below lxa h.2).quad (And.intro (hxb.below lxb h.2).quad (trivial)))
  refine wp_region_G (S := (Ok V3)) (by kernel_rfl) growsB (oc.step (by go_grown)) ?_
  refine tG (i := 0) (o := ?od2n0) (v := ?vd2n0) growsB ?id2n0 (by kernel_rfl) ?qd2n0 ?yd2n0 ?rd2n0
  case id2n0 => (simp only [gA, gZ]; rfl)
  case qd2n0 => exact fun _ _ _ h => h
  case yd2n0 => exact .inl ⟨by rfl, by (intro w hSw; obtain ⟨⟨xa0, xa1, xa2, xa3⟩, ⟨xb0, xb1, xb2, xb3⟩, -⟩ := HF.out w hSw; go_simp; try with_reducible rfl)⟩
  (try simp only [Act.put, pA, pZ, pS])
  refine cG (i := 1) (o := ?od2n1) growsB ?id2n1 (by kernel_rfl) ?qd2n1 ?wd2n1 ?ed2n1 (fun X hX => callO KNa.out hX) ?rd2n1
  case id2n1 => (simp only [gA, gS, gZ]; rfl)
  case qd2n1 => exact fun _ _ _ h => h
  case wd2n1 => rfl
  case ed2n1 => (intro w; go_simp; try with_reducible rfl)
  (try simp only [Act.put, pA, pZ, pS])
  refine tG (i := 2) (o := ?od2n2) (v := ?vd2n2) growsB ?id2n2 (by kernel_rfl) ?qd2n2 ?yd2n2 ?rd2n2
  case id2n2 => (simp only [gA, gS, gZ]; rfl)
  case qd2n2 => exact fun _ _ _ h => h
  case yd2n2 => exact .inl ⟨by rfl, by (intro w _; go_simp; try with_reducible rfl)⟩
  (try simp only [Act.put, pA, pZ, pS])
  refine tG (i := 3) (o := ?od2n3) (v := ?vd2n3) growsB ?id2n3 (by kernel_rfl) ?qd2n3 ?yd2n3 ?rd2n3
  case id2n3 => (simp only [gA, gS, gZ]; rfl)
  case qd2n3 => exact fun _ _ _ h => h
  case yd2n3 => exact .inl ⟨by rfl, by (intro w _; go_simp; try with_reducible rfl)⟩
  (try simp only [Act.put, pA, pZ, pS])
  refine tG (i := 4) (o := ?od2n4) (v := ?vd2n4) growsB ?id2n4 (by kernel_rfl) ?qd2n4 ?yd2n4 ?rd2n4
  case id2n4 => (simp only [gA, gS, gZ]; rfl)
  case qd2n4 => exact fun _ _ _ h => h
  case yd2n4 => exact .inl ⟨by rfl, by (intro w _; go_simp; try with_reducible rfl)⟩
  (try simp only [Act.put, pA, pZ, pS])
  refine tG (i := 5) (o := ?od2n5) (v := ?vd2n5) growsB ?id2n5 (by kernel_rfl) ?qd2n5 ?yd2n5 ?rd2n5
  case id2n5 => (simp only [gA, gS, gZ]; rfl)
  case qd2n5 => exact fun _ _ _ h => h
  case yd2n5 => exact .inl ⟨by rfl, by (intro w hSw; obtain ⟨⟨xa0, xa1, xa2, xa3⟩, ⟨xb0, xb1, xb2, xb3⟩, -⟩ := HF.out w hSw; go_simp; try with_reducible rfl)⟩
  (try simp only [Act.put, pA, pZ, pS])
  refine cG (i := 6) (o := ?od2n6) growsB ?id2n6 (by kernel_rfl) ?qd2n6 ?wd2n6 ?ed2n6 (fun X hX => callO KNb.out hX) ?rd2n6
  case id2n6 => (simp only [gA, gS, gZ]; rfl)
  case qd2n6 => exact fun _ _ _ h => h
  case wd2n6 => rfl
  case ed2n6 => (intro w; go_simp; try with_reducible rfl)
  (try simp only [Act.put, pA, pZ, pS])
  refine tG (i := 7) (o := ?od2n7) (v := ?vd2n7) growsB ?id2n7 (by kernel_rfl) ?qd2n7 ?yd2n7 ?rd2n7
  case id2n7 => (simp only [gA, gS, gZ]; rfl)
  case qd2n7 => exact fun _ _ _ h => h
  case yd2n7 => exact .inl ⟨by rfl, by (intro w _; go_simp; try with_reducible rfl)⟩
  (try simp only [Act.put, pA, pZ, pS])
  refine tG (i := 8) (o := ?od2n8) (v := ?vd2n8) growsB ?id2n8 (by kernel_rfl) ?qd2n8 ?yd2n8 ?rd2n8
  case id2n8 => (simp only [gA, gS, gZ]; rfl)
  case qd2n8 => exact fun _ _ _ h => h
  case yd2n8 => exact .inl ⟨by rfl, by (intro w _; go_simp; try with_reducible rfl)⟩
  (try simp only [Act.put, pA, pZ, pS])
  refine tG (i := 9) (o := ?od2n9) (v := ?vd2n9) growsB ?id2n9 (by kernel_rfl) ?qd2n9 ?yd2n9 ?rd2n9
  case id2n9 => (simp only [gA, gS, gZ]; rfl)
  case qd2n9 => exact fun _ _ _ h => h
  case yd2n9 => exact .inl ⟨by rfl, by (intro w _; go_simp; try with_reducible rfl)⟩
  (try simp only [Act.put, pA, pZ, pS])
  refine tG (i := 10) (o := ?od2n10) (v := ?vd2n10) growsB ?id2n10 (by kernel_rfl) ?qd2n10 ?yd2n10 ?rd2n10
  case id2n10 => (simp only [gA, gS, gZ]; rfl)
  case qd2n10 => exact fun _ _ _ h => h
  case yd2n10 => exact .inl ⟨by rfl, by (intro w _; go_simp; try with_reducible rfl)⟩
  (try simp only [Act.put, pA, pZ, pS])
  refine tG (i := 11) (o := ?od2n11) (v := ?vd2n11) growsB ?id2n11 (by kernel_rfl) ?qd2n11 ?yd2n11 ?rd2n11
  case id2n11 => (simp only [gA, gS, gZ]; rfl)
  case qd2n11 => exact fun _ _ _ h => h
  case yd2n11 => exact .inl ⟨by rfl, by (intro w hSw; obtain ⟨⟨xa0, xa1, xa2, xa3⟩, ⟨xb0, xb1, xb2, xb3⟩, -⟩ := HF.out w hSw; go_simp; try with_reducible rfl)⟩
  (try simp only [Act.put, pA, pZ, pS])
  refine tG (i := 12) (o := ?od2n12) (v := ?vd2n12) growsB ?id2n12 (by kernel_rfl) ?qd2n12 ?yd2n12 ?rd2n12
  case id2n12 => (simp only [gA, gS, gZ]; rfl)
  case qd2n12 => exact fun _ _ _ h => h
  case yd2n12 => exact .inl ⟨by rfl, by (intro w hSw; obtain ⟨⟨xa0, xa1, xa2, xa3⟩, ⟨xb0, xb1, xb2, xb3⟩, -⟩ := HF.out w hSw; go_simp; try with_reducible rfl)⟩
  (try simp only [Act.put, pA, pZ, pS])
  refine cG (i := 13) (o := ?od2n13) growsB ?id2n13 (by kernel_rfl) ?qd2n13 ?wd2n13 ?ed2n13 (fun X hX => callO KM1.out hX) ?rd2n13
  case id2n13 => (simp only [gA, gS, gZ]; rfl)
  case qd2n13 => exact fun _ _ _ h => h
  case wd2n13 => rfl
  case ed2n13 => (intro w; go_simp; try with_reducible rfl)
  (try simp only [Act.put, pA, pZ, pS])
  refine tG (i := 14) (o := ?od2n14) (v := ?vd2n14) growsB ?id2n14 (by kernel_rfl) ?qd2n14 ?yd2n14 ?rd2n14
  case id2n14 => (simp only [gA, gS, gZ]; rfl)
  case qd2n14 => exact fun _ _ _ h => h
  case yd2n14 => exact .inl ⟨by rfl, by (intro w hSw; obtain ⟨⟨xa0, xa1, xa2, xa3⟩, ⟨xb0, xb1, xb2, xb3⟩, -⟩ := HF.out w hSw; go_simp; try with_reducible rfl)⟩
  (try simp only [Act.put, pA, pZ, pS])
  refine tG (i := 15) (o := ?od2n15) (v := ?vd2n15) growsB ?id2n15 (by kernel_rfl) ?qd2n15 ?yd2n15 ?rd2n15
  case id2n15 => (simp only [gA, gS, gZ]; rfl)
  case qd2n15 => exact fun _ _ _ h => h
  case yd2n15 => exact .inl ⟨by rfl, by (intro w hSw; obtain ⟨⟨xa0, xa1, xa2, xa3⟩, ⟨xb0, xb1, xb2, xb3⟩, -⟩ := HF.out w hSw; go_simp; try with_reducible rfl)⟩
  (try simp only [Act.put, pA, pZ, pS])
  refine cG (i := 16) (o := ?od2n16) growsB ?id2n16 (by kernel_rfl) ?qd2n16 ?wd2n16 ?ed2n16 (fun X hX => callO KM2.out hX) ?rd2n16
  case id2n16 => (simp only [gA, gS, gZ]; rfl)
  case qd2n16 => exact fun _ _ _ h => h
  case wd2n16 => rfl
  case ed2n16 => (intro w; go_simp; try with_reducible rfl)
  (try simp only [Act.put, pA, pZ, pS])
  refine tG (i := 17) (o := ?od2n17) (v := ?vd2n17) growsB ?id2n17 (by kernel_rfl) ?qd2n17 ?yd2n17 ?rd2n17
  case id2n17 => (simp only [gA, gS, gZ]; rfl)
  case qd2n17 => exact fun _ _ _ h => h
  case yd2n17 => exact .inl ⟨by rfl, by (intro w _; go_simp; try with_reducible rfl)⟩
  (try simp only [Act.put, pA, pZ, pS])
  refine tG (i := 18) (o := ?od2n18) (v := ?vd2n18) growsB ?id2n18 (by kernel_rfl) ?qd2n18 ?yd2n18 ?rd2n18
  case id2n18 => (simp only [gA, gS, gZ]; rfl)
  case qd2n18 => exact fun _ _ _ h => h
  case yd2n18 => exact .inl ⟨by rfl, by (intro w _; go_simp; try with_reducible rfl)⟩
  (try simp only [Act.put, pA, pZ, pS])
  refine tG (i := 19) (o := ?od2n19) (v := ?vd2n19) growsB ?id2n19 (by kernel_rfl) ?qd2n19 ?yd2n19 ?rd2n19
  case id2n19 => (simp only [gA, gS, gZ]; rfl)
  case qd2n19 => exact fun _ _ _ h => h
  case yd2n19 => exact .inl ⟨by rfl, by (intro w _; go_simp; try with_reducible rfl)⟩
  (try simp only [Act.put, pA, pZ, pS])
  refine tG (i := 20) (o := ?od2n20) (v := ?vd2n20) growsB ?id2n20 (by kernel_rfl) ?qd2n20 ?yd2n20 ?rd2n20
  case id2n20 => (simp only [gA, gS, gZ]; rfl)
  case qd2n20 => exact fun _ _ _ h => h
  case yd2n20 => exact .inl ⟨by rfl, by (intro w hSw; obtain ⟨⟨xa0, xa1, xa2, xa3⟩, ⟨xb0, xb1, xb2, xb3⟩, -⟩ := HF.out w hSw; go_simp; try with_reducible rfl)⟩
  (try simp only [Act.put, pA, pZ, pS])
  refine tG (i := 21) (o := ?od2n21) (v := ?vd2n21) growsB ?id2n21 (by kernel_rfl) ?qd2n21 ?yd2n21 ?rd2n21
  case id2n21 => (simp only [gA, gS, gZ]; rfl)
  case qd2n21 => exact fun _ _ _ h => h
  case yd2n21 => exact .inl ⟨by rfl, by (intro w hSw; obtain ⟨⟨xa0, xa1, xa2, xa3⟩, ⟨xb0, xb1, xb2, xb3⟩, -⟩ := HF.out w hSw; go_simp; try with_reducible rfl)⟩
  (try simp only [Act.put, pA, pZ, pS])
  refine cG (i := 22) (o := ?od2n22) growsB ?id2n22 (by kernel_rfl) ?qd2n22 ?wd2n22 ?ed2n22 (fun X hX => callO KM3.out hX) ?rd2n22
  case id2n22 => (simp only [gA, gS, gZ]; rfl)
  case qd2n22 => exact fun _ _ _ h => h
  case wd2n22 => rfl
  case ed2n22 => (intro w; go_simp; try with_reducible rfl)
  (try simp only [Act.put, pA, pZ, pS])
  refine tG (i := 23) (o := ?od2n23) (v := ?vd2n23) growsB ?id2n23 (by kernel_rfl) ?qd2n23 ?yd2n23 ?rd2n23
  case id2n23 => (simp only [gA, gS, gZ]; rfl)
  case qd2n23 => exact fun _ _ _ h => h
  case yd2n23 => exact .inl ⟨by rfl, by (intro w hSw; obtain ⟨⟨xa0, xa1, xa2, xa3⟩, ⟨xb0, xb1, xb2, xb3⟩, -⟩ := HF.out w hSw; go_simp; try with_reducible rfl)⟩
  (try simp only [Act.put, pA, pZ, pS])
  refine tG (i := 24) (o := ?od2n24) (v := ?vd2n24) growsB ?id2n24 (by kernel_rfl) ?qd2n24 ?yd2n24 ?rd2n24
  case id2n24 => (simp only [gA, gS, gZ]; rfl)
  case qd2n24 => exact fun _ _ _ h => h
  case yd2n24 => exact .inl ⟨by rfl, by (intro w hSw; obtain ⟨⟨xa0, xa1, xa2, xa3⟩, ⟨xb0, xb1, xb2, xb3⟩, -⟩ := HF.out w hSw; go_simp; try with_reducible rfl)⟩
  (try simp only [Act.put, pA, pZ, pS])
  refine cG (i := 25) (o := ?od2n25) growsB ?id2n25 (by kernel_rfl) ?qd2n25 ?wd2n25 ?ed2n25 (fun X hX => callO KM1.out hX) ?rd2n25
  case id2n25 => (simp only [gA, gS, gZ]; rfl)
  case qd2n25 => exact fun _ _ _ h => h
  case wd2n25 => rfl
  case ed2n25 => (intro w; go_simp; try with_reducible rfl)
  (try simp only [Act.put, pA, pZ, pS])
  refine tG (i := 26) (o := ?od2n26) (v := ?vd2n26) growsB ?id2n26 (by kernel_rfl) ?qd2n26 ?yd2n26 ?rd2n26
  case id2n26 => (simp only [gA, gS, gZ]; rfl)
  case qd2n26 => exact fun _ _ _ h => h
  case yd2n26 => exact .inl ⟨by rfl, by (intro w _; go_simp; try with_reducible rfl)⟩
  (try simp only [Act.put, pA, pZ, pS])
  refine tG (i := 27) (o := ?od2n27) (v := ?vd2n27) growsB ?id2n27 (by kernel_rfl) ?qd2n27 ?yd2n27 ?rd2n27
  case id2n27 => (simp only [gA, gS, gZ]; rfl)
  case qd2n27 => exact fun _ _ _ h => h
  case yd2n27 => exact .inl ⟨by rfl, by (intro w _; go_simp; try with_reducible rfl)⟩
  (try simp only [Act.put, pA, pZ, pS])
  refine tG (i := 28) (o := ?od2n28) (v := ?vd2n28) growsB ?id2n28 (by kernel_rfl) ?qd2n28 ?yd2n28 ?rd2n28
  case id2n28 => (simp only [gA, gS, gZ]; rfl)
  case qd2n28 => exact fun _ _ _ h => h
  case yd2n28 => exact .inl ⟨by rfl, by (intro w _; go_simp; try with_reducible rfl)⟩
  (try simp only [Act.put, pA, pZ, pS])
  refine wpAnyG_done (by kernel_rfl) ?_ _
  (try clear hX)
  intro w9 hX hT
  clear HF
  have oc := hX
  clear hX hT
  generalize w9 = V4 at *
  have ocY := oc
  have hxa' := hxa.below lxa ocY.2
  have lxa' := Nat.lt_of_lt_of_le lxa ocY.2.size
  have hxb' := hxb.below lxb ocY.2
  have lxb' := Nat.lt_of_lt_of_le lxb ocY.2.size
  (try clear xa0 xa1 xa2 xa3 xb0 xb1 xb2 xb3)
  have oo' := oo.step ocY.2
  clear ocY oo oc hxa lxa hxb lxb
  have hxa := hxa'
  have lxa := lxa'
  clear hxa' lxa'
  have hxb := hxb'
  have lxb := lxb'
  clear hxb' lxb'
  have oo := oo'
  clear oo'
  have oc := Ok.refl oo.1
  obtain ⟨xa0, xa1, xa2, xa3⟩ := (id hxa).quad
  obtain ⟨xb0, xb1, xb2, xb3⟩ := (id hxb).quad
  clear KNa KNb KM1 KM2 KM3
  go_upto_region 8 with (go_at_call 13; ((with_reducible refine (KJ1.out _ _ (oc.step (by go_grown))).mono ?_); rintro e1 w2 ⟨rfl, hk⟩; (try clear oc); have oc := hk; clear hk; (try clear xa0 xa1 xa2 xa3); have cxa := hxa.below lxa oc.2; obtain ⟨xa0, xa1, xa2, xa3⟩ := cxa.quad; clear cxa; (try clear xb0 xb1 xb2 xb3); have cxb := hxb.below lxb oc.2; obtain ⟨xb0, xb1, xb2, xb3⟩ := cxb.quad; clear cxb))
  obtain ⟨hxp, zxp, txp⟩ := run_new w2 0 0 0 0 _ rfl
  generalize (w2.alloc (Obj.cells #[Value.int IntKind.i8 0, Value.int IntKind.i64 0, Value.int IntKind.i8 0, Value.int IntKind.i64 0] 26)) = V5 at *
  have exp : w.heap.size ≤ w2.heap.size := (oo.step oc.2).2.size
  have lxp : w2.heap.size < V5.heap.size := by omega
  have ocY := oc.step txp
  have hxa' := hxa.below lxa ocY.2
  have lxa' := Nat.lt_of_lt_of_le lxa ocY.2.size
  have hxb' := hxb.below lxb ocY.2
  have lxb' := Nat.lt_of_lt_of_le lxb ocY.2.size
  (try clear xa0 xa1 xa2 xa3 xb0 xb1 xb2 xb3)
  have oo' := oo.step ocY.2
  clear ocY oo oc hxa lxa hxb lxb
  have hxa := hxa'
  have lxa := lxa'
  clear hxa' lxa'
  have hxb := hxb'
  have lxb := lxb'
  clear hxb' lxb'
  have oo := oo'
  clear oo'
  have oc := Ok.refl oo.1
  clear txp zxp
  generalize w2.heap.size = gxp at *
  obtain ⟨xa0, xa1, xa2, xa3⟩ := (id hxa).quad
  obtain ⟨xb0, xb1, xb2, xb3⟩ := (id hxb).quad
  obtain ⟨xp0, xp1, xp2, xp3⟩ := (id hxp).quad
  clear KJ1
  go_upto_region 9 with (go_at_call 13; ((with_reducible refine (KJ2.out _ _ (oc.step (by go_grown))).mono ?_); rintro e1 w2 ⟨rfl, hk⟩; (try clear oc); have oc := hk; clear hk; (try clear xa0 xa1 xa2 xa3); have cxa := hxa.below lxa oc.2; obtain ⟨xa0, xa1, xa2, xa3⟩ := cxa.quad; clear cxa; (try clear xb0 xb1 xb2 xb3); have cxb := hxb.below lxb oc.2; obtain ⟨xb0, xb1, xb2, xb3⟩ := cxb.quad; clear cxb; (try clear xp0 xp1 xp2 xp3); have cxp := hxp.below lxp oc.2; obtain ⟨xp0, xp1, xp2, xp3⟩ := cxp.quad; clear cxp))
  obtain ⟨hxr, zxr, txr⟩ := run_new w2 0 0 0 0 _ rfl
  generalize (w2.alloc (Obj.cells #[Value.int IntKind.i8 0, Value.int IntKind.i64 0, Value.int IntKind.i8 0, Value.int IntKind.i64 0] 26)) = V6 at *
  have exr : w.heap.size ≤ w2.heap.size := (oo.step oc.2).2.size
  have lxr : w2.heap.size < V6.heap.size := by omega
  have ocY := oc.step txr
  have hxa' := hxa.below lxa ocY.2
  have lxa' := Nat.lt_of_lt_of_le lxa ocY.2.size
  have hxb' := hxb.below lxb ocY.2
  have lxb' := Nat.lt_of_lt_of_le lxb ocY.2.size
  have hxp' := hxp.below lxp ocY.2
  have lxp' := Nat.lt_of_lt_of_le lxp ocY.2.size
  (try clear xa0 xa1 xa2 xa3 xb0 xb1 xb2 xb3 xp0 xp1 xp2 xp3)
  have oo' := oo.step ocY.2
  clear ocY oo oc hxa lxa hxb lxb hxp lxp
  have hxa := hxa'
  have lxa := lxa'
  clear hxa' lxa'
  have hxb := hxb'
  have lxb := lxb'
  clear hxb' lxb'
  have hxp := hxp'
  have lxp := lxp'
  clear hxp' lxp'
  have oo := oo'
  clear oo'
  have oc := Ok.refl oo.1
  clear txr zxr
  generalize w2.heap.size = gxr at *
  obtain ⟨xa0, xa1, xa2, xa3⟩ := (id hxa).quad
  obtain ⟨xb0, xb1, xb2, xb3⟩ := (id hxb).quad
  obtain ⟨xp0, xp1, xp2, xp3⟩ := (id hxp).quad
  obtain ⟨xr0, xr1, xr2, xr3⟩ := (id hxr).quad
  clear KJ2
  go_upto_region 10 with (go_at_call 14; ((with_reducible refine (KK1.out _ _ (oc.step (by go_grown))).mono ?_); rintro e1 w2 ⟨rfl, hk⟩; (try clear oc); have oc := hk; clear hk; (try clear xa0 xa1 xa2 xa3); have cxa := hxa.below lxa oc.2; obtain ⟨xa0, xa1, xa2, xa3⟩ := cxa.quad; clear cxa; (try clear xb0 xb1 xb2 xb3); have cxb := hxb.below lxb oc.2; obtain ⟨xb0, xb1, xb2, xb3⟩ := cxb.quad; clear cxb; (try clear xp0 xp1 xp2 xp3); have cxp := hxp.below lxp oc.2; obtain ⟨xp0, xp1, xp2, xp3⟩ := cxp.quad; clear cxp; (try clear xr0 xr1 xr2 xr3); have cxr := hxr.below lxr oc.2; obtain ⟨xr0, xr1, xr2, xr3⟩ := cxr.quad; clear cxr))
  obtain ⟨hxq, zxq, txq⟩ := run_new w2 0 0 0 0 _ rfl
  generalize (w2.alloc (Obj.cells #[Value.int IntKind.i8 0, Value.int IntKind.i64 0, Value.int IntKind.i8 0, Value.int IntKind.i64 0] 26)) = V7 at *
  have exq : w.heap.size ≤ w2.heap.size := (oo.step oc.2).2.size
  have lxq : w2.heap.size < V7.heap.size := by omega
  have ocY := oc.step txq
  have hxa' := hxa.below lxa ocY.2
  have lxa' := Nat.lt_of_lt_of_le lxa ocY.2.size
  have hxb' := hxb.below lxb ocY.2
  have lxb' := Nat.lt_of_lt_of_le lxb ocY.2.size
  have hxp' := hxp.below lxp ocY.2
  have lxp' := Nat.lt_of_lt_of_le lxp ocY.2.size
  have hxr' := hxr.below lxr ocY.2
  have lxr' := Nat.lt_of_lt_of_le lxr ocY.2.size
  (try clear xa0 xa1 xa2 xa3 xb0 xb1 xb2 xb3 xp0 xp1 xp2 xp3 xr0 xr1 xr2 xr3)
  have oo' := oo.step ocY.2
  clear ocY oo oc hxa lxa hxb lxb hxp lxp hxr lxr
  have hxa := hxa'
  have lxa := lxa'
  clear hxa' lxa'
  have hxb := hxb'
  have lxb := lxb'
  clear hxb' lxb'
  have hxp := hxp'
  have lxp := lxp'
  clear hxp' lxp'
  have hxr := hxr'
  have lxr := lxr'
  clear hxr' lxr'
  have oo := oo'
  clear oo'
  have oc := Ok.refl oo.1
  clear txq zxq
  generalize w2.heap.size = gxq at *
  obtain ⟨xa0, xa1, xa2, xa3⟩ := (id hxa).quad
  obtain ⟨xb0, xb1, xb2, xb3⟩ := (id hxb).quad
  obtain ⟨xp0, xp1, xp2, xp3⟩ := (id hxp).quad
  obtain ⟨xr0, xr1, xr2, xr3⟩ := (id hxr).quad
  obtain ⟨xq0, xq1, xq2, xq3⟩ := (id hxq).quad
  clear KK1
  go_upto_region 11 with (go_at_call 14; ((with_reducible refine (KK2.out _ _ (oc.step (by go_grown))).mono ?_); rintro e1 w2 ⟨rfl, hk⟩; (try clear oc); have oc := hk; clear hk; (try clear xa0 xa1 xa2 xa3); have cxa := hxa.below lxa oc.2; obtain ⟨xa0, xa1, xa2, xa3⟩ := cxa.quad; clear cxa; (try clear xb0 xb1 xb2 xb3); have cxb := hxb.below lxb oc.2; obtain ⟨xb0, xb1, xb2, xb3⟩ := cxb.quad; clear cxb; (try clear xp0 xp1 xp2 xp3); have cxp := hxp.below lxp oc.2; obtain ⟨xp0, xp1, xp2, xp3⟩ := cxp.quad; clear cxp; (try clear xr0 xr1 xr2 xr3); have cxr := hxr.below lxr oc.2; obtain ⟨xr0, xr1, xr2, xr3⟩ := cxr.quad; clear cxr; (try clear xq0 xq1 xq2 xq3); have cxq := hxq.below lxq oc.2; obtain ⟨xq0, xq1, xq2, xq3⟩ := cxq.quad; clear cxq))
  obtain ⟨hxs, zxs, txs⟩ := run_new w2 0 0 0 0 _ rfl
  generalize (w2.alloc (Obj.cells #[Value.int IntKind.i8 0, Value.int IntKind.i64 0, Value.int IntKind.i8 0, Value.int IntKind.i64 0] 26)) = V8 at *
  have exs : w.heap.size ≤ w2.heap.size := (oo.step oc.2).2.size
  have lxs : w2.heap.size < V8.heap.size := by omega
  have ocY := oc.step txs
  have hxa' := hxa.below lxa ocY.2
  have lxa' := Nat.lt_of_lt_of_le lxa ocY.2.size
  have hxb' := hxb.below lxb ocY.2
  have lxb' := Nat.lt_of_lt_of_le lxb ocY.2.size
  have hxp' := hxp.below lxp ocY.2
  have lxp' := Nat.lt_of_lt_of_le lxp ocY.2.size
  have hxr' := hxr.below lxr ocY.2
  have lxr' := Nat.lt_of_lt_of_le lxr ocY.2.size
  have hxq' := hxq.below lxq ocY.2
  have lxq' := Nat.lt_of_lt_of_le lxq ocY.2.size
  (try clear xa0 xa1 xa2 xa3 xb0 xb1 xb2 xb3 xp0 xp1 xp2 xp3 xr0 xr1 xr2 xr3 xq0 xq1 xq2 xq3)
  have oo' := oo.step ocY.2
  clear ocY oo oc hxa lxa hxb lxb hxp lxp hxr lxr hxq lxq
  have hxa := hxa'
  have lxa := lxa'
  clear hxa' lxa'
  have hxb := hxb'
  have lxb := lxb'
  clear hxb' lxb'
  have hxp := hxp'
  have lxp := lxp'
  clear hxp' lxp'
  have hxr := hxr'
  have lxr := lxr'
  clear hxr' lxr'
  have hxq := hxq'
  have lxq := lxq'
  clear hxq' lxq'
  have oo := oo'
  clear oo'
  have oc := Ok.refl oo.1
  clear txs zxs
  generalize w2.heap.size = gxs at *
  obtain ⟨xa0, xa1, xa2, xa3⟩ := (id hxa).quad
  obtain ⟨xb0, xb1, xb2, xb3⟩ := (id hxb).quad
  obtain ⟨xp0, xp1, xp2, xp3⟩ := (id hxp).quad
  obtain ⟨xr0, xr1, xr2, xr3⟩ := (id hxr).quad
  obtain ⟨xq0, xq1, xq2, xq3⟩ := (id hxq).quad
  obtain ⟨xs0, xs1, xs2, xs3⟩ := (id hxs).quad
  clear KK2
  (try clear xa0 xa1 xa2 xa3 xb0 xb1 xb2 xb3 xp0 xp1 xp2 xp3 xr0 xr1 xr2 xr3 xq0 xq1 xq2 xq3 xs0 xs1 xs2 xs3)
  have HF := Lib.hid (fun X (h : Ok V8 X) => And.intro (hxa.below lxa h.2).quad (And.intro (hxb.below lxb h.2).quad (And.intro (hxp.below lxp h.2).quad (And.intro (hxr.below lxr h.2).quad (And.intro (hxq.below lxq h.2).quad (And.intro (hxs.below lxs h.2).quad (trivial)))))))
  refine wp_region_G (S := (Ok V8)) (by kernel_rfl) growsB (oc.step (by go_grown)) ?_
  refine tG (i := 0) (o := ?od3n0) (v := ?vd3n0) growsB ?id3n0 (by kernel_rfl) ?qd3n0 ?yd3n0 ?rd3n0
  case id3n0 => (simp only [gA, gZ]; rfl)
  case qd3n0 => exact fun _ _ _ h => h
  case yd3n0 => exact .inl ⟨by rfl, by (intro w hSw; obtain ⟨⟨xa0, xa1, xa2, xa3⟩, ⟨xb0, xb1, xb2, xb3⟩, ⟨xp0, xp1, xp2, xp3⟩, ⟨xr0, xr1, xr2, xr3⟩, ⟨xq0, xq1, xq2, xq3⟩, ⟨xs0, xs1, xs2, xs3⟩, -⟩ := HF.out w hSw; go_simp; try with_reducible rfl)⟩
  (try simp only [Act.put, pA, pZ, pS])
  refine tG (i := 1) (o := ?od3n1) (v := ?vd3n1) growsB ?id3n1 (by kernel_rfl) ?qd3n1 ?yd3n1 ?rd3n1
  case id3n1 => (simp only [gA, gS, gZ]; rfl)
  case qd3n1 => exact fun _ _ _ h => h
  case yd3n1 => exact .inl ⟨by rfl, by (intro w hSw; obtain ⟨⟨xa0, xa1, xa2, xa3⟩, ⟨xb0, xb1, xb2, xb3⟩, ⟨xp0, xp1, xp2, xp3⟩, ⟨xr0, xr1, xr2, xr3⟩, ⟨xq0, xq1, xq2, xq3⟩, ⟨xs0, xs1, xs2, xs3⟩, -⟩ := HF.out w hSw; go_simp; try with_reducible rfl)⟩
  (try simp only [Act.put, pA, pZ, pS])
  refine cG (i := 2) (o := ?od3n2) growsB ?id3n2 (by kernel_rfl) ?qd3n2 ?wd3n2 ?ed3n2 (fun X hX => callO KT1.out hX) ?rd3n2
  case id3n2 => (simp only [gA, gS, gZ]; rfl)
  case qd3n2 => exact fun _ _ _ h => h
  case wd3n2 => rfl
  case ed3n2 => (intro w; go_simp; try with_reducible rfl)
  (try simp only [Act.put, pA, pZ, pS])
  refine tG (i := 3) (o := ?od3n3) (v := ?vd3n3) growsB ?id3n3 (by kernel_rfl) ?qd3n3 ?yd3n3 ?rd3n3
  case id3n3 => (simp only [gA, gS, gZ]; rfl)
  case qd3n3 => exact fun _ _ _ h => h
  case yd3n3 => exact .inl ⟨by rfl, by (intro w _; go_simp; try with_reducible rfl)⟩
  (try simp only [Act.put, pA, pZ, pS])
  refine tG (i := 4) (o := ?od3n4) (v := ?vd3n4) growsB ?id3n4 (by kernel_rfl) ?qd3n4 ?yd3n4 ?rd3n4
  case id3n4 => (simp only [gA, gS, gZ]; rfl)
  case qd3n4 => exact fun _ _ _ h => h
  case yd3n4 => exact .inl ⟨by rfl, by (intro w _; go_simp; try with_reducible rfl)⟩
  (try simp only [Act.put, pA, pZ, pS])
  refine tG (i := 5) (o := ?od3n5) (v := ?vd3n5) growsB ?id3n5 (by kernel_rfl) ?qd3n5 ?yd3n5 ?rd3n5
  case id3n5 => (simp only [gA, gS, gZ]; rfl)
  case qd3n5 => exact fun _ _ _ h => h
  case yd3n5 => exact .inl ⟨by rfl, by (intro w _; go_simp; try with_reducible rfl)⟩
  (try simp only [Act.put, pA, pZ, pS])
  refine tG (i := 6) (o := ?od3n6) (v := ?vd3n6) growsB ?id3n6 (by kernel_rfl) ?qd3n6 ?yd3n6 ?rd3n6
  case id3n6 => (simp only [gA, gS, gZ]; rfl)
  case qd3n6 => exact fun _ _ _ h => h
  case yd3n6 => exact .inl ⟨by rfl, by (intro w hSw; obtain ⟨⟨xa0, xa1, xa2, xa3⟩, ⟨xb0, xb1, xb2, xb3⟩, ⟨xp0, xp1, xp2, xp3⟩, ⟨xr0, xr1, xr2, xr3⟩, ⟨xq0, xq1, xq2, xq3⟩, ⟨xs0, xs1, xs2, xs3⟩, -⟩ := HF.out w hSw; go_simp; try with_reducible rfl)⟩
  (try simp only [Act.put, pA, pZ, pS])
  refine tG (i := 7) (o := ?od3n7) (v := ?vd3n7) growsB ?id3n7 (by kernel_rfl) ?qd3n7 ?yd3n7 ?rd3n7
  case id3n7 => (simp only [gA, gS, gZ]; rfl)
  case qd3n7 => exact fun _ _ _ h => h
  case yd3n7 => exact .inl ⟨by rfl, by (intro w hSw; obtain ⟨⟨xa0, xa1, xa2, xa3⟩, ⟨xb0, xb1, xb2, xb3⟩, ⟨xp0, xp1, xp2, xp3⟩, ⟨xr0, xr1, xr2, xr3⟩, ⟨xq0, xq1, xq2, xq3⟩, ⟨xs0, xs1, xs2, xs3⟩, -⟩ := HF.out w hSw; go_simp; try with_reducible rfl)⟩
  (try simp only [Act.put, pA, pZ, pS])
  refine cG (i := 8) (o := ?od3n8) growsB ?id3n8 (by kernel_rfl) ?qd3n8 ?wd3n8 ?ed3n8 (fun X hX => callO KT2.out hX) ?rd3n8
  case id3n8 => (simp only [gA, gS, gZ]; rfl)
  case qd3n8 => exact fun _ _ _ h => h
  case wd3n8 => rfl
  case ed3n8 => (intro w; go_simp; try with_reducible rfl)
  (try simp only [Act.put, pA, pZ, pS])
  refine tG (i := 9) (o := ?od3n9) (v := ?vd3n9) growsB ?id3n9 (by kernel_rfl) ?qd3n9 ?yd3n9 ?rd3n9
  case id3n9 => (simp only [gA, gS, gZ]; rfl)
  case qd3n9 => exact fun _ _ _ h => h
  case yd3n9 => exact .inl ⟨by rfl, by (intro w _; go_simp; try with_reducible rfl)⟩
  (try simp only [Act.put, pA, pZ, pS])
  refine tG (i := 10) (o := ?od3n10) (v := ?vd3n10) growsB ?id3n10 (by kernel_rfl) ?qd3n10 ?yd3n10 ?rd3n10
  case id3n10 => (simp only [gA, gS, gZ]; rfl)
  case qd3n10 => exact fun _ _ _ h => h
  case yd3n10 => exact .inl ⟨by rfl, by (intro w _; go_simp; try with_reducible rfl)⟩
  (try simp only [Act.put, pA, pZ, pS])
  refine tG (i := 11) (o := ?od3n11) (v := ?vd3n11) growsB ?id3n11 (by kernel_rfl) ?qd3n11 ?yd3n11 ?rd3n11
  case id3n11 => (simp only [gA, gS, gZ]; rfl)
  case qd3n11 => exact fun _ _ _ h => h
  case yd3n11 => exact .inl ⟨by rfl, by (intro w _; go_simp; try with_reducible rfl)⟩
  (try simp only [Act.put, pA, pZ, pS])
  refine tG (i := 12) (o := ?od3n12) (v := ?vd3n12) growsB ?id3n12 (by kernel_rfl) ?qd3n12 ?yd3n12 ?rd3n12
  case id3n12 => (simp only [gA, gS, gZ]; rfl)
  case qd3n12 => exact fun _ _ _ h => h
  case yd3n12 => exact .inl ⟨by rfl, by (intro w _; go_simp; try with_reducible rfl)⟩
  (try simp only [Act.put, pA, pZ, pS])
  refine tG (i := 13) (o := ?od3n13) (v := ?vd3n13) growsB ?id3n13 (by kernel_rfl) ?qd3n13 ?yd3n13 ?rd3n13
  case id3n13 => (simp only [gA, gS, gZ]; rfl)
  case qd3n13 => exact fun _ _ _ h => h
  case yd3n13 => exact .inl ⟨by rfl, by (intro w hSw; obtain ⟨⟨xa0, xa1, xa2, xa3⟩, ⟨xb0, xb1, xb2, xb3⟩, ⟨xp0, xp1, xp2, xp3⟩, ⟨xr0, xr1, xr2, xr3⟩, ⟨xq0, xq1, xq2, xq3⟩, ⟨xs0, xs1, xs2, xs3⟩, -⟩ := HF.out w hSw; go_simp; try with_reducible rfl)⟩
  (try simp only [Act.put, pA, pZ, pS])
  refine tG (i := 14) (o := ?od3n14) (v := ?vd3n14) growsB ?id3n14 (by kernel_rfl) ?qd3n14 ?yd3n14 ?rd3n14
  case id3n14 => (simp only [gA, gS, gZ]; rfl)
  case qd3n14 => exact fun _ _ _ h => h
  case yd3n14 => exact .inl ⟨by rfl, by (intro w _; go_simp; try with_reducible rfl)⟩
  (try simp only [Act.put, pA, pZ, pS])
  refine tG (i := 15) (o := ?od3n15) (v := ?vd3n15) growsB ?id3n15 (by kernel_rfl) ?qd3n15 ?yd3n15 ?rd3n15
  case id3n15 => (simp only [gA, gS, gZ]; rfl)
  case qd3n15 => exact fun _ _ _ h => h
  case yd3n15 => exact .inl ⟨by rfl, by (intro w hSw; obtain ⟨⟨xa0, xa1, xa2, xa3⟩, ⟨xb0, xb1, xb2, xb3⟩, ⟨xp0, xp1, xp2, xp3⟩, ⟨xr0, xr1, xr2, xr3⟩, ⟨xq0, xq1, xq2, xq3⟩, ⟨xs0, xs1, xs2, xs3⟩, -⟩ := HF.out w hSw; go_simp; try with_reducible rfl)⟩
  (try simp only [Act.put, pA, pZ, pS])
  refine tG (i := 16) (o := ?od3n16) (v := ?vd3n16) growsB ?id3n16 (by kernel_rfl) ?qd3n16 ?yd3n16 ?rd3n16
  case id3n16 => (simp only [gA, gS, gZ]; rfl)
  case qd3n16 => exact fun _ _ _ h => h
  case yd3n16 => exact .inl ⟨by rfl, by (intro w hSw; obtain ⟨⟨xa0, xa1, xa2, xa3⟩, ⟨xb0, xb1, xb2, xb3⟩, ⟨xp0, xp1, xp2, xp3⟩, ⟨xr0, xr1, xr2, xr3⟩, ⟨xq0, xq1, xq2, xq3⟩, ⟨xs0, xs1, xs2, xs3⟩, -⟩ := HF.out w hSw; go_simp; try with_reducible rfl)⟩
  (try simp only [Act.put, pA, pZ, pS])
  refine cG (i := 17) (o := ?od3n17) growsB ?id3n17 (by kernel_rfl) ?qd3n17 ?wd3n17 ?ed3n17 (fun X hX => callO KRJ.out hX) ?rd3n17
  case id3n17 => (simp only [gA, gS, gZ]; rfl)
  case qd3n17 => exact fun _ _ _ h => h
  case wd3n17 => rfl
  case ed3n17 => (intro w; go_simp; try with_reducible rfl)
  (try simp only [Act.put, pA, pZ, pS])
  refine tG (i := 18) (o := ?od3n18) (v := ?vd3n18) growsB ?id3n18 (by kernel_rfl) ?qd3n18 ?yd3n18 ?rd3n18
  case id3n18 => (simp only [gA, gS, gZ]; rfl)
  case qd3n18 => exact fun _ _ _ h => h
  case yd3n18 => exact .inl ⟨by rfl, by (intro w _; go_simp; try with_reducible rfl)⟩
  (try simp only [Act.put, pA, pZ, pS])
  refine cG (i := 19) (o := ?od3n19) growsB ?id3n19 (by kernel_rfl) ?qd3n19 ?wd3n19 ?ed3n19 (fun X hX => callO KF1.out hX) ?rd3n19
  case id3n19 => (simp only [gA, gS, gZ]; rfl)
  case qd3n19 => exact fun _ _ _ h => h
  case wd3n19 => rfl
  case ed3n19 => (intro w; go_simp; try with_reducible rfl)
  (try simp only [Act.put, pA, pZ, pS])
  refine tG (i := 20) (o := ?od3n20) (v := ?vd3n20) growsB ?id3n20 (by kernel_rfl) ?qd3n20 ?yd3n20 ?rd3n20
  case id3n20 => (simp only [gA, gS, gZ]; rfl)
  case qd3n20 => exact fun _ _ _ h => h
  case yd3n20 => exact .inl ⟨by rfl, by (intro w _; go_simp; try with_reducible rfl)⟩
  (try simp only [Act.put, pA, pZ, pS])
  refine tG (i := 21) (o := ?od3n21) (v := ?vd3n21) growsB ?id3n21 (by kernel_rfl) ?qd3n21 ?yd3n21 ?rd3n21
  case id3n21 => (simp only [gA, gS, gZ]; rfl)
  case qd3n21 => exact fun _ _ _ h => h
  case yd3n21 => exact .inl ⟨by rfl, by (intro w _; go_simp; try with_reducible rfl)⟩
  (try simp only [Act.put, pA, pZ, pS])
  refine tG (i := 22) (o := ?od3n22) (v := ?vd3n22) growsB ?id3n22 (by kernel_rfl) ?qd3n22 ?yd3n22 ?rd3n22
  case id3n22 => (simp only [gA, gS, gZ]; rfl)
  case qd3n22 => exact fun _ _ _ h => h
  case yd3n22 => exact .inl ⟨by rfl, by (intro w _; go_simp; try with_reducible rfl)⟩
  (try simp only [Act.put, pA, pZ, pS])
  refine tG (i := 23) (o := ?od3n23) (v := ?vd3n23) growsB ?id3n23 (by kernel_rfl) ?qd3n23 ?yd3n23 ?rd3n23
  case id3n23 => (simp only [gA, gS, gZ]; rfl)
  case qd3n23 => exact fun _ _ _ h => h
  case yd3n23 => exact .inl ⟨by rfl, by (intro w hSw; obtain ⟨⟨xa0, xa1, xa2, xa3⟩, ⟨xb0, xb1, xb2, xb3⟩, ⟨xp0, xp1, xp2, xp3⟩, ⟨xr0, xr1, xr2, xr3⟩, ⟨xq0, xq1, xq2, xq3⟩, ⟨xs0, xs1, xs2, xs3⟩, -⟩ := HF.out w hSw; go_simp; try with_reducible rfl)⟩
  (try simp only [Act.put, pA, pZ, pS])
  refine tG (i := 24) (o := ?od3n24) (v := ?vd3n24) growsB ?id3n24 (by kernel_rfl) ?qd3n24 ?yd3n24 ?rd3n24
  case id3n24 => (simp only [gA, gS, gZ]; rfl)
  case qd3n24 => exact fun _ _ _ h => h
  case yd3n24 => exact .inl ⟨by rfl, by (intro w hSw; obtain ⟨⟨xa0, xa1, xa2, xa3⟩, ⟨xb0, xb1, xb2, xb3⟩, ⟨xp0, xp1, xp2, xp3⟩, ⟨xr0, xr1, xr2, xr3⟩, ⟨xq0, xq1, xq2, xq3⟩, ⟨xs0, xs1, xs2, xs3⟩, -⟩ := HF.out w hSw; go_simp; try with_reducible rfl)⟩
  (try simp only [Act.put, pA, pZ, pS])
  refine tG (i := 25) (o := ?od3n25) (v := ?vd3n25) growsB ?id3n25 (by kernel_rfl) ?qd3n25 ?yd3n25 ?rd3n25
  case id3n25 => (simp only [gA, gS, gZ]; rfl)
  case qd3n25 => exact fun _ _ _ h => h
  case yd3n25 => exact .inl ⟨by rfl, by (intro w _; go_simp; try with_reducible rfl)⟩
  (try simp only [Act.put, pA, pZ, pS])
  refine tG (i := 26) (o := ?od3n26) (v := ?vd3n26) growsB ?id3n26 (by kernel_rfl) ?qd3n26 ?yd3n26 ?rd3n26
  case id3n26 => (simp only [gA, gS, gZ]; rfl)
  case qd3n26 => exact fun _ _ _ h => h
  case yd3n26 => exact .inl ⟨by rfl, by (intro w _; go_simp; try with_reducible rfl)⟩
  (try simp only [Act.put, pA, pZ, pS])
  refine tG (i := 27) (o := ?od3n27) (v := ?vd3n27) growsB ?id3n27 (by kernel_rfl) ?qd3n27 ?yd3n27 ?rd3n27
  case id3n27 => (simp only [gA, gS, gZ]; rfl)
  case qd3n27 => exact fun _ _ _ h => h
  case yd3n27 => exact .inl ⟨by rfl, by (intro w _; go_simp; try with_reducible rfl)⟩
  (try simp only [Act.put, pA, pZ, pS])
  refine tG (i := 28) (o := ?od3n28) (v := ?vd3n28) growsB ?id3n28 (by kernel_rfl) ?qd3n28 ?yd3n28 ?rd3n28
  case id3n28 => (simp only [gA, gS, gZ]; rfl)
  case qd3n28 => exact fun _ _ _ h => h
  case yd3n28 => exact .inl ⟨by rfl, by (intro w _; go_simp; try with_reducible rfl)⟩
  (try simp only [Act.put, pA, pZ, pS])
  refine tG (i := 29) (o := ?od3n29) (v := ?vd3n29) growsB ?id3n29 (by kernel_rfl) ?qd3n29 ?yd3n29 ?rd3n29
  case id3n29 => (simp only [gA, gS, gZ]; rfl)
  case qd3n29 => exact fun _ _ _ h => h
  case yd3n29 => exact .inl ⟨by rfl, by (intro w _; go_simp; try with_reducible rfl)⟩
  (try simp only [Act.put, pA, pZ, pS])
  refine tG (i := 30) (o := ?od3n30) (v := ?vd3n30) growsB ?id3n30 (by kernel_rfl) ?qd3n30 ?yd3n30 ?rd3n30
  case id3n30 => (simp only [gA, gS, gZ]; rfl)
  case qd3n30 => exact fun _ _ _ h => h
  case yd3n30 => exact .inl ⟨by rfl, by (intro w _; go_simp; try with_reducible rfl)⟩
  (try simp only [Act.put, pA, pZ, pS])
  refine tG (i := 31) (o := ?od3n31) (v := ?vd3n31) growsB ?id3n31 (by kernel_rfl) ?qd3n31 ?yd3n31 ?rd3n31
  case id3n31 => (simp only [gA, gS, gZ]; rfl)
  case qd3n31 => exact fun _ _ _ h => h
  case yd3n31 => exact .inl ⟨by rfl, by (intro w _; go_simp; try with_reducible rfl)⟩
  (try simp only [Act.put, pA, pZ, pS])
  refine tG (i := 32) (o := ?od3n32) (v := ?vd3n32) growsB ?id3n32 (by kernel_rfl) ?qd3n32 ?yd3n32 ?rd3n32
  case id3n32 => (simp only [gA, gS, gZ]; rfl)
  case qd3n32 => exact fun _ _ _ h => h
  case yd3n32 => exact .inl ⟨by rfl, by (intro w _; go_simp; try with_reducible rfl)⟩
  (try simp only [Act.put, pA, pZ, pS])
  refine tG (i := 33) (o := ?od3n33) (v := ?vd3n33) growsB ?id3n33 (by kernel_rfl) ?qd3n33 ?yd3n33 ?rd3n33
  case id3n33 => (simp only [gA, gS, gZ]; rfl)
  case qd3n33 => exact fun _ _ _ h => h
  case yd3n33 => exact .inl ⟨by rfl, by (intro w hSw; obtain ⟨⟨xa0, xa1, xa2, xa3⟩, ⟨xb0, xb1, xb2, xb3⟩, ⟨xp0, xp1, xp2, xp3⟩, ⟨xr0, xr1, xr2, xr3⟩, ⟨xq0, xq1, xq2, xq3⟩, ⟨xs0, xs1, xs2, xs3⟩, -⟩ := HF.out w hSw; go_simp; try with_reducible rfl)⟩
  (try simp only [Act.put, pA, pZ, pS])
  refine tG (i := 34) (o := ?od3n34) (v := ?vd3n34) growsB ?id3n34 (by kernel_rfl) ?qd3n34 ?yd3n34 ?rd3n34
  case id3n34 => (simp only [gA, gS, gZ]; rfl)
  case qd3n34 => exact fun _ _ _ h => h
  case yd3n34 => exact .inl ⟨by rfl, by (intro w _; go_simp; try with_reducible rfl)⟩
  (try simp only [Act.put, pA, pZ, pS])
  refine tG (i := 35) (o := ?od3n35) (v := ?vd3n35) growsB ?id3n35 (by kernel_rfl) ?qd3n35 ?yd3n35 ?rd3n35
  case id3n35 => (simp only [gA, gS, gZ]; rfl)
  case qd3n35 => exact fun _ _ _ h => h
  case yd3n35 => exact .inl ⟨by rfl, by (intro w hSw; obtain ⟨⟨xa0, xa1, xa2, xa3⟩, ⟨xb0, xb1, xb2, xb3⟩, ⟨xp0, xp1, xp2, xp3⟩, ⟨xr0, xr1, xr2, xr3⟩, ⟨xq0, xq1, xq2, xq3⟩, ⟨xs0, xs1, xs2, xs3⟩, -⟩ := HF.out w hSw; go_simp; try with_reducible rfl)⟩
  (try simp only [Act.put, pA, pZ, pS])
  refine tG (i := 36) (o := ?od3n36) (v := ?vd3n36) growsB ?id3n36 (by kernel_rfl) ?qd3n36 ?yd3n36 ?rd3n36
  case id3n36 => (simp only [gA, gS, gZ]; rfl)
  case qd3n36 => exact fun _ _ _ h => h
  case yd3n36 => exact .inl ⟨by rfl, by (intro w hSw; obtain ⟨⟨xa0, xa1, xa2, xa3⟩, ⟨xb0, xb1, xb2, xb3⟩, ⟨xp0, xp1, xp2, xp3⟩, ⟨xr0, xr1, xr2, xr3⟩, ⟨xq0, xq1, xq2, xq3⟩, ⟨xs0, xs1, xs2, xs3⟩, -⟩ := HF.out w hSw; go_simp; try with_reducible rfl)⟩
  (try simp only [Act.put, pA, pZ, pS])
  refine cG (i := 37) (o := ?od3n37) growsB ?id3n37 (by kernel_rfl) ?qd3n37 ?wd3n37 ?ed3n37 (fun X hX => callO KRK.out hX) ?rd3n37
  case id3n37 => (simp only [gA, gS, gZ]; rfl)
  case qd3n37 => exact fun _ _ _ h => h
  case wd3n37 => rfl
  case ed3n37 => (intro w; go_simp; try with_reducible rfl)
  (try simp only [Act.put, pA, pZ, pS])
  refine tG (i := 38) (o := ?od3n38) (v := ?vd3n38) growsB ?id3n38 (by kernel_rfl) ?qd3n38 ?yd3n38 ?rd3n38
  case id3n38 => (simp only [gA, gS, gZ]; rfl)
  case qd3n38 => exact fun _ _ _ h => h
  case yd3n38 => exact .inl ⟨by rfl, by (intro w _; go_simp; try with_reducible rfl)⟩
  (try simp only [Act.put, pA, pZ, pS])
  refine cG (i := 39) (o := ?od3n39) growsB ?id3n39 (by kernel_rfl) ?qd3n39 ?wd3n39 ?ed3n39 (fun X hX => callO KF2.out hX) ?rd3n39
  case id3n39 => (simp only [gA, gS, gZ]; rfl)
  case qd3n39 => exact fun _ _ _ h => h
  case wd3n39 => rfl
  case ed3n39 => (intro w; go_simp; try with_reducible rfl)
  (try simp only [Act.put, pA, pZ, pS])
  refine tG (i := 40) (o := ?od3n40) (v := ?vd3n40) growsB ?id3n40 (by kernel_rfl) ?qd3n40 ?yd3n40 ?rd3n40
  case id3n40 => (simp only [gA, gS, gZ]; rfl)
  case qd3n40 => exact fun _ _ _ h => h
  case yd3n40 => exact .inl ⟨by rfl, by (intro w _; go_simp; try with_reducible rfl)⟩
  (try simp only [Act.put, pA, pZ, pS])
  refine tG (i := 41) (o := ?od3n41) (v := ?vd3n41) growsB ?id3n41 (by kernel_rfl) ?qd3n41 ?yd3n41 ?rd3n41
  case id3n41 => (simp only [gA, gS, gZ]; rfl)
  case qd3n41 => exact fun _ _ _ h => h
  case yd3n41 => exact .inl ⟨by rfl, by (intro w _; go_simp; try with_reducible rfl)⟩
  (try simp only [Act.put, pA, pZ, pS])
  refine tG (i := 42) (o := ?od3n42) (v := ?vd3n42) growsB ?id3n42 (by kernel_rfl) ?qd3n42 ?yd3n42 ?rd3n42
  case id3n42 => (simp only [gA, gS, gZ]; rfl)
  case qd3n42 => exact fun _ _ _ h => h
  case yd3n42 => exact .inl ⟨by rfl, by (intro w _; go_simp; try with_reducible rfl)⟩
  (try simp only [Act.put, pA, pZ, pS])
  refine tG (i := 43) (o := ?od3n43) (v := ?vd3n43) growsB ?id3n43 (by kernel_rfl) ?qd3n43 ?yd3n43 ?rd3n43
  case id3n43 => (simp only [gA, gS, gZ]; rfl)
  case qd3n43 => exact fun _ _ _ h => h
  case yd3n43 => exact .inl ⟨by rfl, by (intro w hSw; obtain ⟨⟨xa0, xa1, xa2, xa3⟩, ⟨xb0, xb1, xb2, xb3⟩, ⟨xp0, xp1, xp2, xp3⟩, ⟨xr0, xr1, xr2, xr3⟩, ⟨xq0, xq1, xq2, xq3⟩, ⟨xs0, xs1, xs2, xs3⟩, -⟩ := HF.out w hSw; go_simp; try with_reducible rfl)⟩
  (try simp only [Act.put, pA, pZ, pS])
  refine tG (i := 44) (o := ?od3n44) (v := ?vd3n44) growsB ?id3n44 (by kernel_rfl) ?qd3n44 ?yd3n44 ?rd3n44
  case id3n44 => (simp only [gA, gS, gZ]; rfl)
  case qd3n44 => exact fun _ _ _ h => h
  case yd3n44 => exact .inl ⟨by rfl, by (intro w hSw; obtain ⟨⟨xa0, xa1, xa2, xa3⟩, ⟨xb0, xb1, xb2, xb3⟩, ⟨xp0, xp1, xp2, xp3⟩, ⟨xr0, xr1, xr2, xr3⟩, ⟨xq0, xq1, xq2, xq3⟩, ⟨xs0, xs1, xs2, xs3⟩, -⟩ := HF.out w hSw; go_simp; try with_reducible rfl)⟩
  (try simp only [Act.put, pA, pZ, pS])
  refine tG (i := 45) (o := ?od3n45) (v := ?vd3n45) growsB ?id3n45 (by kernel_rfl) ?qd3n45 ?yd3n45 ?rd3n45
  case id3n45 => (simp only [gA, gS, gZ]; rfl)
  case qd3n45 => exact fun _ _ _ h => h
  case yd3n45 => exact .inl ⟨by rfl, by (intro w _; go_simp; try with_reducible rfl)⟩
  (try simp only [Act.put, pA, pZ, pS])
  refine tG (i := 46) (o := ?od3n46) (v := ?vd3n46) growsB ?id3n46 (by kernel_rfl) ?qd3n46 ?yd3n46 ?rd3n46
  case id3n46 => (simp only [gA, gS, gZ]; rfl)
  case qd3n46 => exact fun _ _ _ h => h
  case yd3n46 => exact .inl ⟨by rfl, by (intro w _; go_simp; try with_reducible rfl)⟩
  (try simp only [Act.put, pA, pZ, pS])
  refine tG (i := 47) (o := ?od3n47) (v := ?vd3n47) growsB ?id3n47 (by kernel_rfl) ?qd3n47 ?yd3n47 ?rd3n47
  case id3n47 => (simp only [gA, gS, gZ]; rfl)
  case qd3n47 => exact fun _ _ _ h => h
  case yd3n47 => exact .inl ⟨by rfl, by (intro w _; go_simp; try with_reducible rfl)⟩
  (try simp only [Act.put, pA, pZ, pS])
  refine tG (i := 48) (o := ?od3n48) (v := ?vd3n48) growsB ?id3n48 (by kernel_rfl) ?qd3n48 ?yd3n48 ?rd3n48
  case id3n48 => (simp only [gA, gS, gZ]; rfl)
  case qd3n48 => exact fun _ _ _ h => h
  case yd3n48 => exact .inl ⟨by rfl, by (intro w _; go_simp; try with_reducible rfl)⟩
  (try simp only [Act.put, pA, pZ, pS])
  refine tG (i := 49) (o := ?od3n49) (v := ?vd3n49) growsB ?id3n49 (by kernel_rfl) ?qd3n49 ?yd3n49 ?rd3n49
  case id3n49 => (simp only [gA, gS, gZ]; rfl)
  case qd3n49 => exact fun _ _ _ h => h
  case yd3n49 => exact .inl ⟨by rfl, by (intro w _; go_simp; try with_reducible rfl)⟩
  (try simp only [Act.put, pA, pZ, pS])
  refine tG (i := 50) (o := ?od3n50) (v := ?vd3n50) growsB ?id3n50 (by kernel_rfl) ?qd3n50 ?yd3n50 ?rd3n50
  case id3n50 => (simp only [gA, gS, gZ]; rfl)
  case qd3n50 => exact fun _ _ _ h => h
  case yd3n50 => exact .inl ⟨by rfl, by (intro w _; go_simp; try with_reducible rfl)⟩
  (try simp only [Act.put, pA, pZ, pS])
  refine tG (i := 51) (o := ?od3n51) (v := ?vd3n51) growsB ?id3n51 (by kernel_rfl) ?qd3n51 ?yd3n51 ?rd3n51
  case id3n51 => (simp only [gA, gS, gZ]; rfl)
  case qd3n51 => exact fun _ _ _ h => h
  case yd3n51 => exact .inl ⟨by rfl, by (intro w _; go_simp; try with_reducible rfl)⟩
  (try simp only [Act.put, pA, pZ, pS])
  refine wpAnyG_done (by kernel_rfl) ?_ _
  (try clear hX)
  intro w9 hX hT
  clear HF
  have oc := hX
  clear hX hT
  generalize w9 = V9 at *
  have ocY := oc
  have hxa' := hxa.below lxa ocY.2
  have lxa' := Nat.lt_of_lt_of_le lxa ocY.2.size
  have hxb' := hxb.below lxb ocY.2
  have lxb' := Nat.lt_of_lt_of_le lxb ocY.2.size
  have hxp' := hxp.below lxp ocY.2
  have lxp' := Nat.lt_of_lt_of_le lxp ocY.2.size
  have hxr' := hxr.below lxr ocY.2
  have lxr' := Nat.lt_of_lt_of_le lxr ocY.2.size
  have hxq' := hxq.below lxq ocY.2
  have lxq' := Nat.lt_of_lt_of_le lxq ocY.2.size
  have hxs' := hxs.below lxs ocY.2
  have lxs' := Nat.lt_of_lt_of_le lxs ocY.2.size
  (try clear xa0 xa1 xa2 xa3 xb0 xb1 xb2 xb3 xp0 xp1 xp2 xp3 xr0 xr1 xr2 xr3 xq0 xq1 xq2 xq3 xs0 xs1 xs2 xs3)
  have oo' := oo.step ocY.2
  clear ocY oo oc hxa lxa hxb lxb hxp lxp hxr lxr hxq lxq hxs lxs
  have hxa := hxa'
  have lxa := lxa'
  clear hxa' lxa'
  have hxb := hxb'
  have lxb := lxb'
  clear hxb' lxb'
  have hxp := hxp'
  have lxp := lxp'
  clear hxp' lxp'
  have hxr := hxr'
  have lxr := lxr'
  clear hxr' lxr'
  have hxq := hxq'
  have lxq := lxq'
  clear hxq' lxq'
  have hxs := hxs'
  have lxs := lxs'
  clear hxs' lxs'
  have oo := oo'
  clear oo'
  have oc := Ok.refl oo.1
  obtain ⟨xa0, xa1, xa2, xa3⟩ := (id hxa).quad
  obtain ⟨xb0, xb1, xb2, xb3⟩ := (id hxb).quad
  obtain ⟨xp0, xp1, xp2, xp3⟩ := (id hxp).quad
  obtain ⟨xr0, xr1, xr2, xr3⟩ := (id hxr).quad
  obtain ⟨xq0, xq1, xq2, xq3⟩ := (id hxq).quad
  obtain ⟨xs0, xs1, xs2, xs3⟩ := (id hxs).quad
  clear KT1 KT2 KRJ KF1 KRK KF2
  (try clear xr0 xr1 xr2 xr3)
  (try clear hxr lxr)
  (try clear exr)
  (try clear xs0 xs1 xs2 xs3)
  (try clear hxs lxs)
  (try clear exs)
  go_upto_region 15 with (first
      | (go_at_call 19; ((with_reducible refine (KW.out _ _ (oc.step (by go_grown))).mono ?_); rintro e1 w2 ⟨rfl, hk⟩; (try clear oc); have oc := hk; clear hk; (try clear xa0 xa1 xa2 xa3); have cxa := hxa.below lxa oc.2; obtain ⟨xa0, xa1, xa2, xa3⟩ := cxa.quad; clear cxa; (try clear xb0 xb1 xb2 xb3); have cxb := hxb.below lxb oc.2; obtain ⟨xb0, xb1, xb2, xb3⟩ := cxb.quad; clear cxb; (try clear xp0 xp1 xp2 xp3); have cxp := hxp.below lxp oc.2; obtain ⟨xp0, xp1, xp2, xp3⟩ := cxp.quad; clear cxp; (try clear xq0 xq1 xq2 xq3); have cxq := hxq.below lxq oc.2; obtain ⟨xq0, xq1, xq2, xq3⟩ := cxq.quad; clear cxq))
      | (go_at_call 21; ((with_reducible refine (KHa.out _ _ (oc.step (by go_grown))).mono ?_); rintro e1 w2 ⟨rfl, hk⟩; (try clear oc); have oc := hk; clear hk; (try clear xa0 xa1 xa2 xa3); have cxa := hxa.below lxa oc.2; obtain ⟨xa0, xa1, xa2, xa3⟩ := cxa.quad; clear cxa; (try clear xb0 xb1 xb2 xb3); have cxb := hxb.below lxb oc.2; obtain ⟨xb0, xb1, xb2, xb3⟩ := cxb.quad; clear cxb; (try clear xp0 xp1 xp2 xp3); have cxp := hxp.below lxp oc.2; obtain ⟨xp0, xp1, xp2, xp3⟩ := cxp.quad; clear cxp; (try clear xq0 xq1 xq2 xq3); have cxq := hxq.below lxq oc.2; obtain ⟨xq0, xq1, xq2, xq3⟩ := cxq.quad; clear cxq))
      | (go_at_call 22; ((with_reducible refine (KRH.out _ _ (oc.step (by go_grown))).mono ?_); rintro e1 w2 ⟨rfl, hk⟩; (try clear oc); have oc := hk; clear hk; (try clear xa0 xa1 xa2 xa3); have cxa := hxa.below lxa oc.2; obtain ⟨xa0, xa1, xa2, xa3⟩ := cxa.quad; clear cxa; (try clear xb0 xb1 xb2 xb3); have cxb := hxb.below lxb oc.2; obtain ⟨xb0, xb1, xb2, xb3⟩ := cxb.quad; clear cxb; (try clear xp0 xp1 xp2 xp3); have cxp := hxp.below lxp oc.2; obtain ⟨xp0, xp1, xp2, xp3⟩ := cxp.quad; clear cxp; (try clear xq0 xq1 xq2 xq3); have cxq := hxq.below lxq oc.2; obtain ⟨xq0, xq1, xq2, xq3⟩ := cxq.quad; clear cxq)))
  generalize w2 = V10 at *
  have ocY := oc
  have hxa' := hxa.below lxa ocY.2
  have lxa' := Nat.lt_of_lt_of_le lxa ocY.2.size
  have hxb' := hxb.below lxb ocY.2
  have lxb' := Nat.lt_of_lt_of_le lxb ocY.2.size
  have hxp' := hxp.below lxp ocY.2
  have lxp' := Nat.lt_of_lt_of_le lxp ocY.2.size
  have hxq' := hxq.below lxq ocY.2
  have lxq' := Nat.lt_of_lt_of_le lxq ocY.2.size
  (try clear xa0 xa1 xa2 xa3 xb0 xb1 xb2 xb3 xp0 xp1 xp2 xp3 xq0 xq1 xq2 xq3)
  have oo' := oo.step ocY.2
  clear ocY oo oc hxa lxa hxb lxb hxp lxp hxq lxq
  have hxa := hxa'
  have lxa := lxa'
  clear hxa' lxa'
  have hxb := hxb'
  have lxb := lxb'
  clear hxb' lxb'
  have hxp := hxp'
  have lxp := lxp'
  clear hxp' lxp'
  have hxq := hxq'
  have lxq := lxq'
  clear hxq' lxq'
  have oo := oo'
  clear oo'
  have oc := Ok.refl oo.1
  obtain ⟨xa0, xa1, xa2, xa3⟩ := (id hxa).quad
  obtain ⟨xb0, xb1, xb2, xb3⟩ := (id hxb).quad
  obtain ⟨xp0, xp1, xp2, xp3⟩ := (id hxp).quad
  obtain ⟨xq0, xq1, xq2, xq3⟩ := (id hxq).quad
  clear KW KHa KRH
  (try clear xa0 xa1 xa2 xa3 xb0 xb1 xb2 xb3 xp0 xp1 xp2 xp3 xq0 xq1 xq2 xq3)
  have HF := Lib.hid (fun X (h : Ok V10 X) => And.intro (hxa.below lxa h.2).quad (And.intro (hxb.below lxb h.2).quad (And.intro (hxp.below lxp h.2).quad (And.intro (hxq.below lxq h.2).quad (trivial)))))
  refine wp_region_G (S := (Ok V10)) (by kernel_rfl) growsB (oc.step (by go_grown)) ?_
  refine tG (i := 0) (o := ?od4n0) (v := ?vd4n0) growsB ?id4n0 (by kernel_rfl) ?qd4n0 ?yd4n0 ?rd4n0
  case id4n0 => (simp only [gA, gZ]; rfl)
  case qd4n0 => exact fun _ _ _ h => h
  case yd4n0 => exact .inl ⟨by rfl, by (intro w _; go_simp; try with_reducible rfl)⟩
  (try simp only [Act.put, pA, pZ, pS])
  refine tG (i := 1) (o := ?od4n1) (v := ?vd4n1) growsB ?id4n1 (by kernel_rfl) ?qd4n1 ?yd4n1 ?rd4n1
  case id4n1 => (simp only [gA, gS, gZ]; rfl)
  case qd4n1 => exact fun _ _ _ h => h
  case yd4n1 => exact .inl ⟨by rfl, by (intro w _; go_simp; try with_reducible rfl)⟩
  (try simp only [Act.put, pA, pZ, pS])
  refine tG (i := 2) (o := ?od4n2) (v := undef) growsB ?id4n2 (by kernel_rfl) ?qd4n2 ?yd4n2 ?rd4n2
  case id4n2 => (simp only [gA, gS, gZ]; rfl)
  case qd4n2 => exact fun _ _ _ h => h
  case yd4n2 => exact .inr ⟨rfl, rfl⟩
  (try simp only [Act.put, pA, pZ, pS])
  refine tG (i := 3) (o := ?od4n3) (v := undef) growsB ?id4n3 (by kernel_rfl) ?qd4n3 ?yd4n3 ?rd4n3
  case id4n3 => (simp only [gA, gS, gZ]; rfl)
  case qd4n3 => exact fun _ _ _ h => h
  case yd4n3 => exact .inr ⟨rfl, rfl⟩
  (try simp only [Act.put, pA, pZ, pS])
  refine tG (i := 4) (o := ?od4n4) (v := undef) growsB ?id4n4 (by kernel_rfl) ?qd4n4 ?yd4n4 ?rd4n4
  case id4n4 => (simp only [gA, gS, gZ]; rfl)
  case qd4n4 => exact fun _ _ _ h => h
  case yd4n4 => exact .inr ⟨rfl, rfl⟩
  (try simp only [Act.put, pA, pZ, pS])
  refine tG (i := 5) (o := ?od4n5) (v := undef) growsB ?id4n5 (by kernel_rfl) ?qd4n5 ?yd4n5 ?rd4n5
  case id4n5 => (simp only [gA, gS, gZ]; rfl)
  case qd4n5 => exact fun _ _ _ h => h
  case yd4n5 => exact .inr ⟨rfl, rfl⟩
  (try simp only [Act.put, pA, pZ, pS])
  refine tG (i := 6) (o := ?od4n6) (v := undef) growsB ?id4n6 (by kernel_rfl) ?qd4n6 ?yd4n6 ?rd4n6
  case id4n6 => (simp only [gA, gS, gZ]; rfl)
  case qd4n6 => exact fun _ _ _ h => h
  case yd4n6 => exact .inr ⟨rfl, rfl⟩
  (try simp only [Act.put, pA, pZ, pS])
  refine tG (i := 7) (o := ?od4n7) (v := undef) growsB ?id4n7 (by kernel_rfl) ?qd4n7 ?yd4n7 ?rd4n7
  case id4n7 => (simp only [gA, gS, gZ]; rfl)
  case qd4n7 => exact fun _ _ _ h => h
  case yd4n7 => exact .inr ⟨rfl, rfl⟩
  (try simp only [Act.put, pA, pZ, pS])
  refine tG (i := 8) (o := ?od4n8) (v := undef) growsB ?id4n8 (by kernel_rfl) ?qd4n8 ?yd4n8 ?rd4n8
  case id4n8 => (simp only [gA, gS, gZ]; rfl)
  case qd4n8 => exact fun _ _ _ h => h
  case yd4n8 => exact .inr ⟨rfl, rfl⟩
  (try simp only [Act.put, pA, pZ, pS])
  refine tG (i := 9) (o := ?od4n9) (v := undef) growsB ?id4n9 (by kernel_rfl) ?qd4n9 ?yd4n9 ?rd4n9
  case id4n9 => (simp only [gA, gS, gZ]; rfl)
  case qd4n9 => exact fun _ _ _ h => h
  case yd4n9 => exact .inr ⟨rfl, rfl⟩
  (try simp only [Act.put, pA, pZ, pS])
  refine tG (i := 10) (o := ?od4n10) (v := undef) growsB ?id4n10 (by kernel_rfl) ?qd4n10 ?yd4n10 ?rd4n10
  case id4n10 => (simp only [gA, gS, gZ]; rfl)
  case qd4n10 => exact fun _ _ _ h => h
  case yd4n10 => exact .inr ⟨rfl, rfl⟩
  (try simp only [Act.put, pA, pZ, pS])
  refine tG (i := 11) (o := ?od4n11) (v := undef) growsB ?id4n11 (by kernel_rfl) ?qd4n11 ?yd4n11 ?rd4n11
  case id4n11 => (simp only [gA, gS, gZ]; rfl)
  case qd4n11 => exact fun _ _ _ h => h
  case yd4n11 => exact .inr ⟨rfl, rfl⟩
  (try simp only [Act.put, pA, pZ, pS])
  refine tG (i := 12) (o := ?od4n12) (v := undef) growsB ?id4n12 (by kernel_rfl) ?qd4n12 ?yd4n12 ?rd4n12
  case id4n12 => (simp only [gA, gS, gZ]; rfl)
  case qd4n12 => exact fun _ _ _ h => h
  case yd4n12 => exact .inr ⟨rfl, rfl⟩
  (try simp only [Act.put, pA, pZ, pS])
  refine tG (i := 13) (o := ?od4n13) (v := undef) growsB ?id4n13 (by kernel_rfl) ?qd4n13 ?yd4n13 ?rd4n13
  case id4n13 => (simp only [gA, gS, gZ]; rfl)
  case qd4n13 => exact fun _ _ _ h => h
  case yd4n13 => exact .inr ⟨rfl, rfl⟩
  (try simp only [Act.put, pA, pZ, pS])
  refine tG (i := 14) (o := ?od4n14) (v := ?vd4n14) growsB ?id4n14 (by kernel_rfl) ?qd4n14 ?yd4n14 ?rd4n14
  case id4n14 => (simp only [gA, gS, gZ]; rfl)
  case qd4n14 => exact fun _ _ _ h => h
  case yd4n14 => exact .inl ⟨by rfl, by (intro w _; go_simp; try with_reducible rfl)⟩
  (try simp only [Act.put, pA, pZ, pS])
  refine wpAnyG_done (by kernel_rfl) ?_ _
  (try clear hX)
  intro w9 hX hT
  clear HF
  have oc := hX
  clear hX hT
  generalize w9 = V11 at *
  have ocY := oc
  have hxa' := hxa.below lxa ocY.2
  have lxa' := Nat.lt_of_lt_of_le lxa ocY.2.size
  have hxb' := hxb.below lxb ocY.2
  have lxb' := Nat.lt_of_lt_of_le lxb ocY.2.size
  have hxp' := hxp.below lxp ocY.2
  have lxp' := Nat.lt_of_lt_of_le lxp ocY.2.size
  have hxq' := hxq.below lxq ocY.2
  have lxq' := Nat.lt_of_lt_of_le lxq ocY.2.size
  (try clear xa0 xa1 xa2 xa3 xb0 xb1 xb2 xb3 xp0 xp1 xp2 xp3 xq0 xq1 xq2 xq3)
  have oo' := oo.step ocY.2
  clear ocY oo oc hxa lxa hxb lxb hxp lxp hxq lxq
  have hxa := hxa'
  have lxa := lxa'
  clear hxa' lxa'
  have hxb := hxb'
  have lxb := lxb'
  clear hxb' lxb'
  have hxp := hxp'
  have lxp := lxp'
  clear hxp' lxp'
  have hxq := hxq'
  have lxq := lxq'
  clear hxq' lxq'
  have oo := oo'
  clear oo'
  have oc := Ok.refl oo.1
  obtain ⟨xa0, xa1, xa2, xa3⟩ := (id hxa).quad
  obtain ⟨xb0, xb1, xb2, xb3⟩ := (id hxb).quad
  obtain ⟨xp0, xp1, xp2, xp3⟩ := (id hxp).quad
  obtain ⟨xq0, xq1, xq2, xq3⟩ := (id hxq).quad
  (try clear xp0 xp1 xp2 xp3)
  (try clear hxp lxp)
  (try clear exp)
  go_upto_region 17 with fail
  (try clear xa0 xa1 xa2 xa3 xb0 xb1 xb2 xb3 xq0 xq1 xq2 xq3)
  have HF := Lib.hid (fun X (h : Ok V11 X) => And.intro (hxa.below lxa h.2).quad (And.intro (hxb.below lxb h.2).quad (And.intro (hxq.below lxq h.2).quad (trivial))))
  refine wp_region_G (S := (Ok V11)) (by kernel_rfl) growsB (oc.step (by go_grown)) ?_
  refine tG (i := 0) (o := ?od5n0) (v := ?vd5n0) growsB ?id5n0 (by kernel_rfl) ?qd5n0 ?yd5n0 ?rd5n0
  case id5n0 => (simp only [gA, gZ]; rfl)
  case qd5n0 => exact fun _ _ _ h => h
  case yd5n0 => exact .inl ⟨by rfl, by (intro w _; go_simp; try with_reducible rfl)⟩
  (try simp only [Act.put, pA, pZ, pS])
  refine tG (i := 1) (o := ?od5n1) (v := ?vd5n1) growsB ?id5n1 (by kernel_rfl) ?qd5n1 ?yd5n1 ?rd5n1
  case id5n1 => (simp only [gA, gS, gZ]; rfl)
  case qd5n1 => exact fun _ _ _ h => h
  case yd5n1 => exact .inl ⟨by rfl, by (intro w _; go_simp; try with_reducible rfl)⟩
  (try simp only [Act.put, pA, pZ, pS])
  refine tG (i := 2) (o := ?od5n2) (v := ?vd5n2) growsB ?id5n2 (by kernel_rfl) ?qd5n2 ?yd5n2 ?rd5n2
  case id5n2 => (simp only [gA, gS, gZ]; rfl)
  case qd5n2 => exact fun _ _ _ h => h
  case yd5n2 => exact .inl ⟨by rfl, by (intro w _; go_simp; try with_reducible rfl)⟩
  (try simp only [Act.put, pA, pZ, pS])
  refine tG (i := 3) (o := ?od5n3) (v := undef) growsB ?id5n3 (by kernel_rfl) ?qd5n3 ?yd5n3 ?rd5n3
  case id5n3 => (simp only [gA, gS, gZ]; rfl)
  case qd5n3 => exact fun _ _ _ h => h
  case yd5n3 => exact .inr ⟨rfl, rfl⟩
  (try simp only [Act.put, pA, pZ, pS])
  refine tG (i := 4) (o := ?od5n4) (v := undef) growsB ?id5n4 (by kernel_rfl) ?qd5n4 ?yd5n4 ?rd5n4
  case id5n4 => (simp only [gA, gS, gZ]; rfl)
  case qd5n4 => exact fun _ _ _ h => h
  case yd5n4 => exact .inr ⟨rfl, rfl⟩
  (try simp only [Act.put, pA, pZ, pS])
  refine tG (i := 5) (o := ?od5n5) (v := undef) growsB ?id5n5 (by kernel_rfl) ?qd5n5 ?yd5n5 ?rd5n5
  case id5n5 => (simp only [gA, gS, gZ]; rfl)
  case qd5n5 => exact fun _ _ _ h => h
  case yd5n5 => exact .inr ⟨rfl, rfl⟩
  (try simp only [Act.put, pA, pZ, pS])
  refine tG (i := 6) (o := ?od5n6) (v := undef) growsB ?id5n6 (by kernel_rfl) ?qd5n6 ?yd5n6 ?rd5n6
  case id5n6 => (simp only [gA, gS, gZ]; rfl)
  case qd5n6 => exact fun _ _ _ h => h
  case yd5n6 => exact .inr ⟨rfl, rfl⟩
  (try simp only [Act.put, pA, pZ, pS])
  refine tG (i := 7) (o := ?od5n7) (v := undef) growsB ?id5n7 (by kernel_rfl) ?qd5n7 ?yd5n7 ?rd5n7
  case id5n7 => (simp only [gA, gS, gZ]; rfl)
  case qd5n7 => exact fun _ _ _ h => h
  case yd5n7 => exact .inr ⟨rfl, rfl⟩
  (try simp only [Act.put, pA, pZ, pS])
  refine tG (i := 8) (o := ?od5n8) (v := undef) growsB ?id5n8 (by kernel_rfl) ?qd5n8 ?yd5n8 ?rd5n8
  case id5n8 => (simp only [gA, gS, gZ]; rfl)
  case qd5n8 => exact fun _ _ _ h => h
  case yd5n8 => exact .inr ⟨rfl, rfl⟩
  (try simp only [Act.put, pA, pZ, pS])
  refine tG (i := 9) (o := ?od5n9) (v := undef) growsB ?id5n9 (by kernel_rfl) ?qd5n9 ?yd5n9 ?rd5n9
  case id5n9 => (simp only [gA, gS, gZ]; rfl)
  case qd5n9 => exact fun _ _ _ h => h
  case yd5n9 => exact .inr ⟨rfl, rfl⟩
  (try simp only [Act.put, pA, pZ, pS])
  refine tG (i := 10) (o := ?od5n10) (v := undef) growsB ?id5n10 (by kernel_rfl) ?qd5n10 ?yd5n10 ?rd5n10
  case id5n10 => (simp only [gA, gS, gZ]; rfl)
  case qd5n10 => exact fun _ _ _ h => h
  case yd5n10 => exact .inr ⟨rfl, rfl⟩
  (try simp only [Act.put, pA, pZ, pS])
  refine tG (i := 11) (o := ?od5n11) (v := undef) growsB ?id5n11 (by kernel_rfl) ?qd5n11 ?yd5n11 ?rd5n11
  case id5n11 => (simp only [gA, gS, gZ]; rfl)
  case qd5n11 => exact fun _ _ _ h => h
  case yd5n11 => exact .inr ⟨rfl, rfl⟩
  (try simp only [Act.put, pA, pZ, pS])
  refine tG (i := 12) (o := ?od5n12) (v := undef) growsB ?id5n12 (by kernel_rfl) ?qd5n12 ?yd5n12 ?rd5n12
  case id5n12 => (simp only [gA, gS, gZ]; rfl)
  case qd5n12 => exact fun _ _ _ h => h
  case yd5n12 => exact .inr ⟨rfl, rfl⟩
  (try simp only [Act.put, pA, pZ, pS])
  refine tG (i := 13) (o := ?od5n13) (v := undef) growsB ?id5n13 (by kernel_rfl) ?qd5n13 ?yd5n13 ?rd5n13
  case id5n13 => (simp only [gA, gS, gZ]; rfl)
  case qd5n13 => exact fun _ _ _ h => h
  case yd5n13 => exact .inr ⟨rfl, rfl⟩
  (try simp only [Act.put, pA, pZ, pS])
  refine tG (i := 14) (o := ?od5n14) (v := undef) growsB ?id5n14 (by kernel_rfl) ?qd5n14 ?yd5n14 ?rd5n14
  case id5n14 => (simp only [gA, gS, gZ]; rfl)
  case qd5n14 => exact fun _ _ _ h => h
  case yd5n14 => exact .inr ⟨rfl, rfl⟩
  (try simp only [Act.put, pA, pZ, pS])
  refine tG (i := 15) (o := ?od5n15) (v := undef) growsB ?id5n15 (by kernel_rfl) ?qd5n15 ?yd5n15 ?rd5n15
  case id5n15 => (simp only [gA, gS, gZ]; rfl)
  case qd5n15 => exact fun _ _ _ h => h
  case yd5n15 => exact .inr ⟨rfl, rfl⟩
  (try simp only [Act.put, pA, pZ, pS])
  refine tG (i := 16) (o := ?od5n16) (v := undef) growsB ?id5n16 (by kernel_rfl) ?qd5n16 ?yd5n16 ?rd5n16
  case id5n16 => (simp only [gA, gS, gZ]; rfl)
  case qd5n16 => exact fun _ _ _ h => h
  case yd5n16 => exact .inr ⟨rfl, rfl⟩
  (try simp only [Act.put, pA, pZ, pS])
  refine tG (i := 17) (o := ?od5n17) (v := undef) growsB ?id5n17 (by kernel_rfl) ?qd5n17 ?yd5n17 ?rd5n17
  case id5n17 => (simp only [gA, gS, gZ]; rfl)
  case qd5n17 => exact fun _ _ _ h => h
  case yd5n17 => exact .inr ⟨rfl, rfl⟩
  (try simp only [Act.put, pA, pZ, pS])
  refine tG (i := 18) (o := ?od5n18) (v := ?vd5n18) growsB ?id5n18 (by kernel_rfl) ?qd5n18 ?yd5n18 ?rd5n18
  case id5n18 => (simp only [gA, gS, gZ]; rfl)
  case qd5n18 => exact fun _ _ _ h => h
  case yd5n18 => exact .inl ⟨by rfl, by (intro w _; go_simp; try with_reducible rfl)⟩
  (try simp only [Act.put, pA, pZ, pS])
  refine tG (i := 19) (o := ?od5n19) (v := ?vd5n19) growsB ?id5n19 (by kernel_rfl) ?qd5n19 ?yd5n19 ?rd5n19
  case id5n19 => (simp only [gA, gS, gZ]; rfl)
  case qd5n19 => exact fun _ _ _ h => h
  case yd5n19 => exact .inl ⟨by rfl, by (intro w _; go_simp; try with_reducible rfl)⟩
  (try simp only [Act.put, pA, pZ, pS])
  refine cG (i := 20) (o := ?od5n20) growsB ?id5n20 (by kernel_rfl) ?qd5n20 ?wd5n20 ?ed5n20 (fun X hX => callO KL.out hX) ?rd5n20
  case id5n20 => (simp only [gA, gS, gZ]; rfl)
  case qd5n20 => exact fun _ _ _ h => h
  case wd5n20 => rfl
  case ed5n20 => (intro w; go_simp; try with_reducible rfl)
  (try simp only [Act.put, pA, pZ, pS])
  refine tG (i := 21) (o := ?od5n21) (v := ?vd5n21) growsB ?id5n21 (by kernel_rfl) ?qd5n21 ?yd5n21 ?rd5n21
  case id5n21 => (simp only [gA, gS, gZ]; rfl)
  case qd5n21 => exact fun _ _ _ h => h
  case yd5n21 => exact .inl ⟨by rfl, by (intro w _; go_simp; try with_reducible rfl)⟩
  (try simp only [Act.put, pA, pZ, pS])
  refine tG (i := 22) (o := ?od5n22) (v := ?vd5n22) growsB ?id5n22 (by kernel_rfl) ?qd5n22 ?yd5n22 ?rd5n22
  case id5n22 => (simp only [gA, gS, gZ]; rfl)
  case qd5n22 => exact fun _ _ _ h => h
  case yd5n22 => exact .inl ⟨by rfl, by (intro w _; go_simp; try with_reducible rfl)⟩
  (try simp only [Act.put, pA, pZ, pS])
  refine wpAnyG_done (by kernel_rfl) ?_ _
  (try clear hX)
  intro w9 hX hT
  clear HF
  have oc := hX
  clear hX hT
  generalize w9 = V12 at *
  have ocY := oc
  have hxa' := hxa.below lxa ocY.2
  have lxa' := Nat.lt_of_lt_of_le lxa ocY.2.size
  have hxb' := hxb.below lxb ocY.2
  have lxb' := Nat.lt_of_lt_of_le lxb ocY.2.size
  have hxq' := hxq.below lxq ocY.2
  have lxq' := Nat.lt_of_lt_of_le lxq ocY.2.size
  (try clear xa0 xa1 xa2 xa3 xb0 xb1 xb2 xb3 xq0 xq1 xq2 xq3)
  have oo' := oo.step ocY.2
  clear ocY oo oc hxa lxa hxb lxb hxq lxq
  have hxa := hxa'
  have lxa := lxa'
  clear hxa' lxa'
  have hxb := hxb'
  have lxb := lxb'
  clear hxb' lxb'
  have hxq := hxq'
  have lxq := lxq'
  clear hxq' lxq'
  have oo := oo'
  clear oo'
  have oc := Ok.refl oo.1
  obtain ⟨xa0, xa1, xa2, xa3⟩ := (id hxa).quad
  obtain ⟨xb0, xb1, xb2, xb3⟩ := (id hxb).quad
  obtain ⟨xq0, xq1, xq2, xq3⟩ := (id hxq).quad
  go_wp2_with fail
  go_ret
  exact ⟨rfl, oo.step oc.2⟩

set_option maxRecDepth 100000 in
set_option maxHeartbeats 8000000 in
theorem pairs_n2 (i d j e k u l v n c x y r0 r1 r2 r3 s0 s1 s2 s3 : Int) (w W : World) (KL : Hid (∀ B X, Ok B X → Calls Tryz.prog 23 #[] X fun z w' => z = .returned (.bool true) ∧ Ok B w')) (KCa : Hid (∀ B X, Ok B X → Calls Tryz.prog 7 #[U4 i d j e] X fun z w' => z = .returned (.int .i64 x) ∧ Ok B w')) (KCb : Hid (∀ B X, Ok B X → Calls Tryz.prog 7 #[U4 k u l v] X fun z w' => z = .returned (.int .i64 y) ∧ Ok B w')) (KNa : Hid (∀ B X, Ok B X → Calls Tryz.prog 8 #[U4 i d j e] X fun z w' => z = .returned (.int .i64 x) ∧ Ok B w')) (KNb : Hid (∀ B X, Ok B X → Calls Tryz.prog 8 #[U4 k u l v] X fun z w' => z = .returned (.int .i64 y) ∧ Ok B w'))
    (KM1 : Hid (∀ B X, Ok B X → Calls Tryz.prog 9 #[U4 i d j e, U4 k u l v] X fun z w' => z = .returned (.int .i64 c) ∧ Ok B w')) (KM2 : Hid (∀ B X, Ok B X → Calls Tryz.prog 10 #[U4 i d j e, U4 k u l v] X fun z w' => z = .returned (.int .i64 c) ∧ Ok B w')) (KM3 : Hid (∀ B X, Ok B X → Calls Tryz.prog 9 #[U4 k u l v, U4 i d j e] X fun z w' => z = .returned (.int .i64 (-c)) ∧ Ok B w'))
    (KJ1 : Hid (∀ B X, Ok B X → Calls Tryz.prog 13 #[U4 i d j e, U4 k u l v] X fun z w' => z = .returned (.tuple #[U4 0 0 0 0, .bool false]) ∧ Ok B w')) (KJ2 : Hid (∀ B X, Ok B X → Calls Tryz.prog 13 #[U4 k u l v, U4 i d j e] X fun z w' => z = .returned (.tuple #[U4 0 0 0 0, .bool false]) ∧ Ok B w')) (KK1 : Hid (∀ B X, Ok B X → Calls Tryz.prog 14 #[U4 i d j e, U4 k u l v] X fun z w' => z = .returned (.tuple #[U4 0 0 0 0, .bool false]) ∧ Ok B w')) (KK2 : Hid (∀ B X, Ok B X → Calls Tryz.prog 14 #[U4 k u l v, U4 i d j e] X fun z w' => z = .returned (.tuple #[U4 0 0 0 0, .bool false]) ∧ Ok B w'))
    (KT1 : Hid (∀ B X, Ok B X → Calls Tryz.prog 15 #[U4 i d j e, U4 k u l v] X fun z w' => z = .returned (.bool false) ∧ Ok B w')) (KT2 : Hid (∀ B X, Ok B X → Calls Tryz.prog 15 #[U4 k u l v, U4 i d j e] X fun z w' => z = .returned (.bool false) ∧ Ok B w')) (KRJ : Hid (∀ B X, Ok B X → Calls Tryz.prog 17 #[U4 i d j e, U4 k u l v] X fun z w' => z = .returned (U4 r0 r1 r2 r3) ∧ Ok B w')) (KRK : Hid (∀ B X, Ok B X → Calls Tryz.prog 18 #[U4 i d j e, U4 k u l v] X fun z w' => z = .returned (U4 s0 s1 s2 s3) ∧ Ok B w')) (KF1 : Hid (∀ B X, Ok B X → Calls Tryz.prog 16 #[U4 0 0 0 0, .bool false, U4 r0 r1 r2 r3, .bool false] X fun z w' => z = .returned (.bool true) ∧ Ok B w')) (KF2 : Hid (∀ B X, Ok B X → Calls Tryz.prog 16 #[U4 0 0 0 0, .bool false, U4 s0 s1 s2 s3, .bool false] X fun z w' => z = .returned (.bool true) ∧ Ok B w'))
    (KW : Hid (∀ B X, Ok B X → Calls Tryz.prog 19 #[U4 i d j e, U4 k u l v] X fun z w' => z = .returned (.bool false) ∧ Ok B w')) (KHa : Hid (∀ B X, Ok B X → Calls Tryz.prog 21 #[U4 i d j e, .int .i64 n] X fun z w' => z = .returned (.bool false) ∧ Ok B w'))
    (hyw : IntKind.i64.wrap (x + y) = x + y) (hx : (x == 0) = false) (hy : (x + y == 0) = false) (hcw : IntKind.i64.wrap (-c) = -c) (ho : Ok w W) :
    Calls Tryz.prog 3 #[U4 i d j e, U4 k u l v, .int .i64 n] W fun e w' => e = .returned (.bool true) ∧ Ok w w' := by
  have hc1 : (c != c) = false := by simp
  have hc2 : (-c != -c) = false := by simp
  have hy1 : (y != y) = false := by simp
  have hx1 : (x != x) = false := by simp
  have ep : ∀ w, (binOp .neq 26 (U4 0 0 0 0) (U4 0 0 0 0)).run Tryz.prog w = .ok (.bool false) w := fun w => by have h := ne_any ⟨0, 0, 0, 0⟩ ⟨0, 0, 0, 0⟩ w; rw [ruEq_self] at h; exact h
  have eq2 : ∀ w, (binOp .neq 26 (U4 0 0 0 0) (U4 0 0 0 0)).run Tryz.prog w = .ok (.bool false) w := fun w => by have h := ne_any ⟨0, 0, 0, 0⟩ ⟨0, 0, 0, 0⟩ w; rw [ruEq_self] at h; exact h
  go_enter Tryz.func3, Tryz.ntmps3
  have oo := ho
  clear ho
  have oc := Ok.refl oo.1
  go_upto_region 1 with fail
  obtain ⟨hxa, zxa, txa⟩ := run_new W i d j e _ rfl
  generalize (W.alloc (Obj.cells #[Value.int IntKind.i8 i, Value.int IntKind.i64 d, Value.int IntKind.i8 j, Value.int IntKind.i64 e] 26)) = V1 at *
  have exa : w.heap.size ≤ W.heap.size := (oo.step oc.2).2.size
  have lxa : W.heap.size < V1.heap.size := by omega
  have ocY := oc.step txa
  have oo' := oo.step ocY.2
  clear ocY oo oc
  have oo := oo'
  clear oo'
  have oc := Ok.refl oo.1
  have zz1 : V1.heap.size = W.heap.size + 1 := zxa
  clear txa zxa
  obtain ⟨hxb, zxb, txb⟩ := run_new V1 k u l v _ rfl
  generalize (V1.alloc (Obj.cells #[Value.int IntKind.i8 k, Value.int IntKind.i64 u, Value.int IntKind.i8 l, Value.int IntKind.i64 v] 26)) = V2 at *
  have exb : w.heap.size ≤ V1.heap.size := (oo.step oc.2).2.size
  have lxb : V1.heap.size < V2.heap.size := by omega
  have ocY := oc.step txb
  have hxa' := hxa.below lxa ocY.2
  have lxa' := Nat.lt_of_lt_of_le lxa ocY.2.size
  (try clear xa0 xa1 xa2 xa3)
  have oo' := oo.step ocY.2
  clear ocY oo oc hxa lxa
  have hxa := hxa'
  have lxa := lxa'
  clear hxa' lxa'
  have oo := oo'
  clear oo'
  have oc := Ok.refl oo.1
  rw [zz1] at hxb lxb exb zxb
  have zz2 : V2.heap.size = W.heap.size + 1 + 1 := zxb
  clear zz1
  clear txb zxb
  (try clear zz2)
  generalize W.heap.size + 1 = gxb at *
  generalize W.heap.size = gxa at *
  (try clear xa0 xa1 xa2 xa3 xb0 xb1 xb2 xb3)
  have HF := Lib.hid (fun X (h : Ok V2 X) => And.intro (hxa.below lxa h.2).quad (And.intro (hxb.below lxb h.2).quad (trivial)))
  refine wp_region_G (S := (Ok V2)) (by kernel_rfl) growsB (oc.step (by go_grown)) ?_
  refine tG (i := 0) (o := ?od1n0) (v := ?vd1n0) growsB ?id1n0 (by kernel_rfl) ?qd1n0 ?yd1n0 ?rd1n0
  case id1n0 => (simp only [gA, gZ]; rfl)
  case qd1n0 => exact fun _ _ _ h => h
  case yd1n0 => exact .inl ⟨by rfl, by (intro w hSw; obtain ⟨⟨xa0, xa1, xa2, xa3⟩, ⟨xb0, xb1, xb2, xb3⟩, -⟩ := HF.out w hSw; go_simp; try with_reducible rfl)⟩
  (try simp only [Act.put, pA, pZ, pS])
  refine cG (i := 1) (o := ?od1n1) growsB ?id1n1 (by kernel_rfl) ?qd1n1 ?wd1n1 ?ed1n1 (fun X hX => callO KCa.out hX) ?rd1n1
  case id1n1 => (simp only [gA, gS, gZ]; rfl)
  case qd1n1 => exact fun _ _ _ h => h
  case wd1n1 => rfl
  case ed1n1 => (intro w; go_simp; try with_reducible rfl)
  (try simp only [Act.put, pA, pZ, pS])
  refine tG (i := 2) (o := ?od1n2) (v := ?vd1n2) growsB ?id1n2 (by kernel_rfl) ?qd1n2 ?yd1n2 ?rd1n2
  case id1n2 => (simp only [gA, gS, gZ]; rfl)
  case qd1n2 => exact fun _ _ _ h => h
  case yd1n2 => exact .inl ⟨by rfl, by (intro w hSw; obtain ⟨⟨xa0, xa1, xa2, xa3⟩, ⟨xb0, xb1, xb2, xb3⟩, -⟩ := HF.out w hSw; go_simp; try with_reducible rfl)⟩
  (try simp only [Act.put, pA, pZ, pS])
  refine cG (i := 3) (o := ?od1n3) growsB ?id1n3 (by kernel_rfl) ?qd1n3 ?wd1n3 ?ed1n3 (fun X hX => callO KCb.out hX) ?rd1n3
  case id1n3 => (simp only [gA, gS, gZ]; rfl)
  case qd1n3 => exact fun _ _ _ h => h
  case wd1n3 => rfl
  case ed1n3 => (intro w; go_simp; try with_reducible rfl)
  (try simp only [Act.put, pA, pZ, pS])
  refine tG (i := 4) (o := ?od1n4) (v := ?vd1n4) growsB ?id1n4 (by kernel_rfl) ?qd1n4 ?yd1n4 ?rd1n4
  case id1n4 => (simp only [gA, gS, gZ]; rfl)
  case qd1n4 => exact fun _ _ _ h => h
  case yd1n4 => exact .inl ⟨by rfl, by (intro w _; go_simp; try with_reducible rfl)⟩
  (try simp only [Act.put, pA, pZ, pS])
  refine tG (i := 5) (o := ?od1n5) (v := ?vd1n5) growsB ?id1n5 (by kernel_rfl) ?qd1n5 ?yd1n5 ?rd1n5
  case id1n5 => (simp only [gA, gS, gZ]; rfl)
  case qd1n5 => exact fun _ _ _ h => h
  case yd1n5 => exact .inl ⟨by rfl, by (intro w _; go_simp; try with_reducible rfl)⟩
  (try simp only [Act.put, pA, pZ, pS])
  refine wpAnyG_done (by kernel_rfl) ?_ _
  (try clear hX)
  intro w9 hX hT
  clear HF
  have oc := hX
  clear hX hT
  generalize w9 = V3 at *
  have ocY := oc
  have hxa' := hxa.below lxa ocY.2
  have lxa' := Nat.lt_of_lt_of_le lxa ocY.2.size
  have hxb' := hxb.below lxb ocY.2
  have lxb' := Nat.lt_of_lt_of_le lxb ocY.2.size
  (try clear xa0 xa1 xa2 xa3 xb0 xb1 xb2 xb3)
  have oo' := oo.step ocY.2
  clear ocY oo oc hxa lxa hxb lxb
  have hxa := hxa'
  have lxa := lxa'
  clear hxa' lxa'
  have hxb := hxb'
  have lxb := lxb'
  clear hxb' lxb'
  have oo := oo'
  clear oo'
  have oc := Ok.refl oo.1
  obtain ⟨xa0, xa1, xa2, xa3⟩ := (id hxa).quad
  obtain ⟨xb0, xb1, xb2, xb3⟩ := (id hxb).quad
  clear KCa KCb
  go_upto_region 2 with fail
  (try clear xa0 xa1 xa2 xa3 xb0 xb1 xb2 xb3)
  have HF := Lib.hid (fun X (h : Ok V3 X) => And.intro (hxa.below lxa h.2).quad (And.intro (hxb.below lxb h.2).quad (trivial)))
  refine wp_region_G (S := (Ok V3)) (by kernel_rfl) growsB (oc.step (by go_grown)) ?_
  refine tG (i := 0) (o := ?od2n0) (v := ?vd2n0) growsB ?id2n0 (by kernel_rfl) ?qd2n0 ?yd2n0 ?rd2n0
  case id2n0 => (simp only [gA, gZ]; rfl)
  case qd2n0 => exact fun _ _ _ h => h
  case yd2n0 => exact .inl ⟨by rfl, by (intro w hSw; obtain ⟨⟨xa0, xa1, xa2, xa3⟩, ⟨xb0, xb1, xb2, xb3⟩, -⟩ := HF.out w hSw; go_simp; try with_reducible rfl)⟩
  (try simp only [Act.put, pA, pZ, pS])
  refine cG (i := 1) (o := ?od2n1) growsB ?id2n1 (by kernel_rfl) ?qd2n1 ?wd2n1 ?ed2n1 (fun X hX => callO KNa.out hX) ?rd2n1
  case id2n1 => (simp only [gA, gS, gZ]; rfl)
  case qd2n1 => exact fun _ _ _ h => h
  case wd2n1 => rfl
  case ed2n1 => (intro w; go_simp; try with_reducible rfl)
  (try simp only [Act.put, pA, pZ, pS])
  refine tG (i := 2) (o := ?od2n2) (v := ?vd2n2) growsB ?id2n2 (by kernel_rfl) ?qd2n2 ?yd2n2 ?rd2n2
  case id2n2 => (simp only [gA, gS, gZ]; rfl)
  case qd2n2 => exact fun _ _ _ h => h
  case yd2n2 => exact .inl ⟨by rfl, by (intro w _; go_simp; try with_reducible rfl)⟩
  (try simp only [Act.put, pA, pZ, pS])
  refine tG (i := 3) (o := ?od2n3) (v := ?vd2n3) growsB ?id2n3 (by kernel_rfl) ?qd2n3 ?yd2n3 ?rd2n3
  case id2n3 => (simp only [gA, gS, gZ]; rfl)
  case qd2n3 => exact fun _ _ _ h => h
  case yd2n3 => exact .inl ⟨by rfl, by (intro w _; go_simp; try with_reducible rfl)⟩
  (try simp only [Act.put, pA, pZ, pS])
  refine tG (i := 4) (o := ?od2n4) (v := ?vd2n4) growsB ?id2n4 (by kernel_rfl) ?qd2n4 ?yd2n4 ?rd2n4
  case id2n4 => (simp only [gA, gS, gZ]; rfl)
  case qd2n4 => exact fun _ _ _ h => h
  case yd2n4 => exact .inl ⟨by rfl, by (intro w _; go_simp; try with_reducible rfl)⟩
  (try simp only [Act.put, pA, pZ, pS])
  refine tG (i := 5) (o := ?od2n5) (v := ?vd2n5) growsB ?id2n5 (by kernel_rfl) ?qd2n5 ?yd2n5 ?rd2n5
  case id2n5 => (simp only [gA, gS, gZ]; rfl)
  case qd2n5 => exact fun _ _ _ h => h
  case yd2n5 => exact .inl ⟨by rfl, by (intro w hSw; obtain ⟨⟨xa0, xa1, xa2, xa3⟩, ⟨xb0, xb1, xb2, xb3⟩, -⟩ := HF.out w hSw; go_simp; try with_reducible rfl)⟩
  (try simp only [Act.put, pA, pZ, pS])
  refine cG (i := 6) (o := ?od2n6) growsB ?id2n6 (by kernel_rfl) ?qd2n6 ?wd2n6 ?ed2n6 (fun X hX => callO KNb.out hX) ?rd2n6
  case id2n6 => (simp only [gA, gS, gZ]; rfl)
  case qd2n6 => exact fun _ _ _ h => h
  case wd2n6 => rfl
  case ed2n6 => (intro w; go_simp; try with_reducible rfl)
  (try simp only [Act.put, pA, pZ, pS])
  refine tG (i := 7) (o := ?od2n7) (v := ?vd2n7) growsB ?id2n7 (by kernel_rfl) ?qd2n7 ?yd2n7 ?rd2n7
  case id2n7 => (simp only [gA, gS, gZ]; rfl)
  case qd2n7 => exact fun _ _ _ h => h
  case yd2n7 => exact .inl ⟨by rfl, by (intro w _; go_simp; try with_reducible rfl)⟩
  (try simp only [Act.put, pA, pZ, pS])
  refine tG (i := 8) (o := ?od2n8) (v := ?vd2n8) growsB ?id2n8 (by kernel_rfl) ?qd2n8 ?yd2n8 ?rd2n8
  case id2n8 => (simp only [gA, gS, gZ]; rfl)
  case qd2n8 => exact fun _ _ _ h => h
  case yd2n8 => exact .inl ⟨by rfl, by (intro w _; go_simp; try with_reducible rfl)⟩
  (try simp only [Act.put, pA, pZ, pS])
  refine tG (i := 9) (o := ?od2n9) (v := ?vd2n9) growsB ?id2n9 (by kernel_rfl) ?qd2n9 ?yd2n9 ?rd2n9
  case id2n9 => (simp only [gA, gS, gZ]; rfl)
  case qd2n9 => exact fun _ _ _ h => h
  case yd2n9 => exact .inl ⟨by rfl, by (intro w _; go_simp; try with_reducible rfl)⟩
  (try simp only [Act.put, pA, pZ, pS])
  refine tG (i := 10) (o := ?od2n10) (v := ?vd2n10) growsB ?id2n10 (by kernel_rfl) ?qd2n10 ?yd2n10 ?rd2n10
  case id2n10 => (simp only [gA, gS, gZ]; rfl)
  case qd2n10 => exact fun _ _ _ h => h
  case yd2n10 => exact .inl ⟨by rfl, by (intro w _; go_simp; try with_reducible rfl)⟩
  (try simp only [Act.put, pA, pZ, pS])
  refine tG (i := 11) (o := ?od2n11) (v := ?vd2n11) growsB ?id2n11 (by kernel_rfl) ?qd2n11 ?yd2n11 ?rd2n11
  case id2n11 => (simp only [gA, gS, gZ]; rfl)
  case qd2n11 => exact fun _ _ _ h => h
  case yd2n11 => exact .inl ⟨by rfl, by (intro w hSw; obtain ⟨⟨xa0, xa1, xa2, xa3⟩, ⟨xb0, xb1, xb2, xb3⟩, -⟩ := HF.out w hSw; go_simp; try with_reducible rfl)⟩
  (try simp only [Act.put, pA, pZ, pS])
  refine tG (i := 12) (o := ?od2n12) (v := ?vd2n12) growsB ?id2n12 (by kernel_rfl) ?qd2n12 ?yd2n12 ?rd2n12
  case id2n12 => (simp only [gA, gS, gZ]; rfl)
  case qd2n12 => exact fun _ _ _ h => h
  case yd2n12 => exact .inl ⟨by rfl, by (intro w hSw; obtain ⟨⟨xa0, xa1, xa2, xa3⟩, ⟨xb0, xb1, xb2, xb3⟩, -⟩ := HF.out w hSw; go_simp; try with_reducible rfl)⟩
  (try simp only [Act.put, pA, pZ, pS])
  refine cG (i := 13) (o := ?od2n13) growsB ?id2n13 (by kernel_rfl) ?qd2n13 ?wd2n13 ?ed2n13 (fun X hX => callO KM1.out hX) ?rd2n13
  case id2n13 => (simp only [gA, gS, gZ]; rfl)
  case qd2n13 => exact fun _ _ _ h => h
  case wd2n13 => rfl
  case ed2n13 => (intro w; go_simp; try with_reducible rfl)
  (try simp only [Act.put, pA, pZ, pS])
  refine tG (i := 14) (o := ?od2n14) (v := ?vd2n14) growsB ?id2n14 (by kernel_rfl) ?qd2n14 ?yd2n14 ?rd2n14
  case id2n14 => (simp only [gA, gS, gZ]; rfl)
  case qd2n14 => exact fun _ _ _ h => h
  case yd2n14 => exact .inl ⟨by rfl, by (intro w hSw; obtain ⟨⟨xa0, xa1, xa2, xa3⟩, ⟨xb0, xb1, xb2, xb3⟩, -⟩ := HF.out w hSw; go_simp; try with_reducible rfl)⟩
  (try simp only [Act.put, pA, pZ, pS])
  refine tG (i := 15) (o := ?od2n15) (v := ?vd2n15) growsB ?id2n15 (by kernel_rfl) ?qd2n15 ?yd2n15 ?rd2n15
  case id2n15 => (simp only [gA, gS, gZ]; rfl)
  case qd2n15 => exact fun _ _ _ h => h
  case yd2n15 => exact .inl ⟨by rfl, by (intro w hSw; obtain ⟨⟨xa0, xa1, xa2, xa3⟩, ⟨xb0, xb1, xb2, xb3⟩, -⟩ := HF.out w hSw; go_simp; try with_reducible rfl)⟩
  (try simp only [Act.put, pA, pZ, pS])
  refine cG (i := 16) (o := ?od2n16) growsB ?id2n16 (by kernel_rfl) ?qd2n16 ?wd2n16 ?ed2n16 (fun X hX => callO KM2.out hX) ?rd2n16
  case id2n16 => (simp only [gA, gS, gZ]; rfl)
  case qd2n16 => exact fun _ _ _ h => h
  case wd2n16 => rfl
  case ed2n16 => (intro w; go_simp; try with_reducible rfl)
  (try simp only [Act.put, pA, pZ, pS])
  refine tG (i := 17) (o := ?od2n17) (v := ?vd2n17) growsB ?id2n17 (by kernel_rfl) ?qd2n17 ?yd2n17 ?rd2n17
  case id2n17 => (simp only [gA, gS, gZ]; rfl)
  case qd2n17 => exact fun _ _ _ h => h
  case yd2n17 => exact .inl ⟨by rfl, by (intro w _; go_simp; try with_reducible rfl)⟩
  (try simp only [Act.put, pA, pZ, pS])
  refine tG (i := 18) (o := ?od2n18) (v := ?vd2n18) growsB ?id2n18 (by kernel_rfl) ?qd2n18 ?yd2n18 ?rd2n18
  case id2n18 => (simp only [gA, gS, gZ]; rfl)
  case qd2n18 => exact fun _ _ _ h => h
  case yd2n18 => exact .inl ⟨by rfl, by (intro w _; go_simp; try with_reducible rfl)⟩
  (try simp only [Act.put, pA, pZ, pS])
  refine tG (i := 19) (o := ?od2n19) (v := ?vd2n19) growsB ?id2n19 (by kernel_rfl) ?qd2n19 ?yd2n19 ?rd2n19
  case id2n19 => (simp only [gA, gS, gZ]; rfl)
  case qd2n19 => exact fun _ _ _ h => h
  case yd2n19 => exact .inl ⟨by rfl, by (intro w _; go_simp; try with_reducible rfl)⟩
  (try simp only [Act.put, pA, pZ, pS])
  refine tG (i := 20) (o := ?od2n20) (v := ?vd2n20) growsB ?id2n20 (by kernel_rfl) ?qd2n20 ?yd2n20 ?rd2n20
  case id2n20 => (simp only [gA, gS, gZ]; rfl)
  case qd2n20 => exact fun _ _ _ h => h
  case yd2n20 => exact .inl ⟨by rfl, by (intro w hSw; obtain ⟨⟨xa0, xa1, xa2, xa3⟩, ⟨xb0, xb1, xb2, xb3⟩, -⟩ := HF.out w hSw; go_simp; try with_reducible rfl)⟩
  (try simp only [Act.put, pA, pZ, pS])
  refine tG (i := 21) (o := ?od2n21) (v := ?vd2n21) growsB ?id2n21 (by kernel_rfl) ?qd2n21 ?yd2n21 ?rd2n21
  case id2n21 => (simp only [gA, gS, gZ]; rfl)
  case qd2n21 => exact fun _ _ _ h => h
  case yd2n21 => exact .inl ⟨by rfl, by (intro w hSw; obtain ⟨⟨xa0, xa1, xa2, xa3⟩, ⟨xb0, xb1, xb2, xb3⟩, -⟩ := HF.out w hSw; go_simp; try with_reducible rfl)⟩
  (try simp only [Act.put, pA, pZ, pS])
  refine cG (i := 22) (o := ?od2n22) growsB ?id2n22 (by kernel_rfl) ?qd2n22 ?wd2n22 ?ed2n22 (fun X hX => callO KM3.out hX) ?rd2n22
  case id2n22 => (simp only [gA, gS, gZ]; rfl)
  case qd2n22 => exact fun _ _ _ h => h
  case wd2n22 => rfl
  case ed2n22 => (intro w; go_simp; try with_reducible rfl)
  (try simp only [Act.put, pA, pZ, pS])
  refine tG (i := 23) (o := ?od2n23) (v := ?vd2n23) growsB ?id2n23 (by kernel_rfl) ?qd2n23 ?yd2n23 ?rd2n23
  case id2n23 => (simp only [gA, gS, gZ]; rfl)
  case qd2n23 => exact fun _ _ _ h => h
  case yd2n23 => exact .inl ⟨by rfl, by (intro w hSw; obtain ⟨⟨xa0, xa1, xa2, xa3⟩, ⟨xb0, xb1, xb2, xb3⟩, -⟩ := HF.out w hSw; go_simp; try with_reducible rfl)⟩
  (try simp only [Act.put, pA, pZ, pS])
  refine tG (i := 24) (o := ?od2n24) (v := ?vd2n24) growsB ?id2n24 (by kernel_rfl) ?qd2n24 ?yd2n24 ?rd2n24
  case id2n24 => (simp only [gA, gS, gZ]; rfl)
  case qd2n24 => exact fun _ _ _ h => h
  case yd2n24 => exact .inl ⟨by rfl, by (intro w hSw; obtain ⟨⟨xa0, xa1, xa2, xa3⟩, ⟨xb0, xb1, xb2, xb3⟩, -⟩ := HF.out w hSw; go_simp; try with_reducible rfl)⟩
  (try simp only [Act.put, pA, pZ, pS])
  refine cG (i := 25) (o := ?od2n25) growsB ?id2n25 (by kernel_rfl) ?qd2n25 ?wd2n25 ?ed2n25 (fun X hX => callO KM1.out hX) ?rd2n25
  case id2n25 => (simp only [gA, gS, gZ]; rfl)
  case qd2n25 => exact fun _ _ _ h => h
  case wd2n25 => rfl
  case ed2n25 => (intro w; go_simp; try with_reducible rfl)
  (try simp only [Act.put, pA, pZ, pS])
  refine tG (i := 26) (o := ?od2n26) (v := ?vd2n26) growsB ?id2n26 (by kernel_rfl) ?qd2n26 ?yd2n26 ?rd2n26
  case id2n26 => (simp only [gA, gS, gZ]; rfl)
  case qd2n26 => exact fun _ _ _ h => h
  case yd2n26 => exact .inl ⟨by rfl, by (intro w _; go_simp; try with_reducible rfl)⟩
  (try simp only [Act.put, pA, pZ, pS])
  refine tG (i := 27) (o := ?od2n27) (v := ?vd2n27) growsB ?id2n27 (by kernel_rfl) ?qd2n27 ?yd2n27 ?rd2n27
  case id2n27 => (simp only [gA, gS, gZ]; rfl)
  case qd2n27 => exact fun _ _ _ h => h
  case yd2n27 => exact .inl ⟨by rfl, by (intro w _; go_simp; try with_reducible rfl)⟩
  (try simp only [Act.put, pA, pZ, pS])
  refine tG (i := 28) (o := ?od2n28) (v := ?vd2n28) growsB ?id2n28 (by kernel_rfl) ?qd2n28 ?yd2n28 ?rd2n28
  case id2n28 => (simp only [gA, gS, gZ]; rfl)
  case qd2n28 => exact fun _ _ _ h => h
  case yd2n28 => exact .inl ⟨by rfl, by (intro w _; go_simp; try with_reducible rfl)⟩
  (try simp only [Act.put, pA, pZ, pS])
  refine wpAnyG_done (by kernel_rfl) ?_ _
  (try clear hX)
  intro w9 hX hT
  clear HF
  have oc := hX
  clear hX hT
  generalize w9 = V4 at *
  have ocY := oc
  have hxa' := hxa.below lxa ocY.2
  have lxa' := Nat.lt_of_lt_of_le lxa ocY.2.size
  have hxb' := hxb.below lxb ocY.2
  have lxb' := Nat.lt_of_lt_of_le lxb ocY.2.size
  (try clear xa0 xa1 xa2 xa3 xb0 xb1 xb2 xb3)
  have oo' := oo.step ocY.2
  clear ocY oo oc hxa lxa hxb lxb
  have hxa := hxa'
  have lxa := lxa'
  clear hxa' lxa'
  have hxb := hxb'
  have lxb := lxb'
  clear hxb' lxb'
  have oo := oo'
  clear oo'
  have oc := Ok.refl oo.1
  obtain ⟨xa0, xa1, xa2, xa3⟩ := (id hxa).quad
  obtain ⟨xb0, xb1, xb2, xb3⟩ := (id hxb).quad
  clear KNa KNb KM1 KM2 KM3
  go_upto_region 8 with (go_at_call 13; ((with_reducible refine (KJ1.out _ _ (oc.step (by go_grown))).mono ?_); rintro e1 w2 ⟨rfl, hk⟩; (try clear oc); have oc := hk; clear hk; (try clear xa0 xa1 xa2 xa3); have cxa := hxa.below lxa oc.2; obtain ⟨xa0, xa1, xa2, xa3⟩ := cxa.quad; clear cxa; (try clear xb0 xb1 xb2 xb3); have cxb := hxb.below lxb oc.2; obtain ⟨xb0, xb1, xb2, xb3⟩ := cxb.quad; clear cxb))
  obtain ⟨hxp, zxp, txp⟩ := run_new w2 0 0 0 0 _ rfl
  generalize (w2.alloc (Obj.cells #[Value.int IntKind.i8 0, Value.int IntKind.i64 0, Value.int IntKind.i8 0, Value.int IntKind.i64 0] 26)) = V5 at *
  have exp : w.heap.size ≤ w2.heap.size := (oo.step oc.2).2.size
  have lxp : w2.heap.size < V5.heap.size := by omega
  have ocY := oc.step txp
  have hxa' := hxa.below lxa ocY.2
  have lxa' := Nat.lt_of_lt_of_le lxa ocY.2.size
  have hxb' := hxb.below lxb ocY.2
  have lxb' := Nat.lt_of_lt_of_le lxb ocY.2.size
  (try clear xa0 xa1 xa2 xa3 xb0 xb1 xb2 xb3)
  have oo' := oo.step ocY.2
  clear ocY oo oc hxa lxa hxb lxb
  have hxa := hxa'
  have lxa := lxa'
  clear hxa' lxa'
  have hxb := hxb'
  have lxb := lxb'
  clear hxb' lxb'
  have oo := oo'
  clear oo'
  have oc := Ok.refl oo.1
  clear txp zxp
  generalize w2.heap.size = gxp at *
  obtain ⟨xa0, xa1, xa2, xa3⟩ := (id hxa).quad
  obtain ⟨xb0, xb1, xb2, xb3⟩ := (id hxb).quad
  obtain ⟨xp0, xp1, xp2, xp3⟩ := (id hxp).quad
  clear KJ1
  go_upto_region 9 with (go_at_call 13; ((with_reducible refine (KJ2.out _ _ (oc.step (by go_grown))).mono ?_); rintro e1 w2 ⟨rfl, hk⟩; (try clear oc); have oc := hk; clear hk; (try clear xa0 xa1 xa2 xa3); have cxa := hxa.below lxa oc.2; obtain ⟨xa0, xa1, xa2, xa3⟩ := cxa.quad; clear cxa; (try clear xb0 xb1 xb2 xb3); have cxb := hxb.below lxb oc.2; obtain ⟨xb0, xb1, xb2, xb3⟩ := cxb.quad; clear cxb; (try clear xp0 xp1 xp2 xp3); have cxp := hxp.below lxp oc.2; obtain ⟨xp0, xp1, xp2, xp3⟩ := cxp.quad; clear cxp))
  obtain ⟨hxr, zxr, txr⟩ := run_new w2 0 0 0 0 _ rfl
  generalize (w2.alloc (Obj.cells #[Value.int IntKind.i8 0, Value.int IntKind.i64 0, Value.int IntKind.i8 0, Value.int IntKind.i64 0] 26)) = V6 at *
  have exr : w.heap.size ≤ w2.heap.size := (oo.step oc.2).2.size
  have lxr : w2.heap.size < V6.heap.size := by omega
  have ocY := oc.step txr
  have hxa' := hxa.below lxa ocY.2
  have lxa' := Nat.lt_of_lt_of_le lxa ocY.2.size
  have hxb' := hxb.below lxb ocY.2
  have lxb' := Nat.lt_of_lt_of_le lxb ocY.2.size
  have hxp' := hxp.below lxp ocY.2
  have lxp' := Nat.lt_of_lt_of_le lxp ocY.2.size
  (try clear xa0 xa1 xa2 xa3 xb0 xb1 xb2 xb3 xp0 xp1 xp2 xp3)
  have oo' := oo.step ocY.2
  clear ocY oo oc hxa lxa hxb lxb hxp lxp
  have hxa := hxa'
  have lxa := lxa'
  clear hxa' lxa'
  have hxb := hxb'
  have lxb := lxb'
  clear hxb' lxb'
  have hxp := hxp'
  have lxp := lxp'
  clear hxp' lxp'
  have oo := oo'
  clear oo'
  have oc := Ok.refl oo.1
  clear txr zxr
  generalize w2.heap.size = gxr at *
  obtain ⟨xa0, xa1, xa2, xa3⟩ := (id hxa).quad
  obtain ⟨xb0, xb1, xb2, xb3⟩ := (id hxb).quad
  obtain ⟨xp0, xp1, xp2, xp3⟩ := (id hxp).quad
  obtain ⟨xr0, xr1, xr2, xr3⟩ := (id hxr).quad
  clear KJ2
  go_upto_region 10 with (go_at_call 14; ((with_reducible refine (KK1.out _ _ (oc.step (by go_grown))).mono ?_); rintro e1 w2 ⟨rfl, hk⟩; (try clear oc); have oc := hk; clear hk; (try clear xa0 xa1 xa2 xa3); have cxa := hxa.below lxa oc.2; obtain ⟨xa0, xa1, xa2, xa3⟩ := cxa.quad; clear cxa; (try clear xb0 xb1 xb2 xb3); have cxb := hxb.below lxb oc.2; obtain ⟨xb0, xb1, xb2, xb3⟩ := cxb.quad; clear cxb; (try clear xp0 xp1 xp2 xp3); have cxp := hxp.below lxp oc.2; obtain ⟨xp0, xp1, xp2, xp3⟩ := cxp.quad; clear cxp; (try clear xr0 xr1 xr2 xr3); have cxr := hxr.below lxr oc.2; obtain ⟨xr0, xr1, xr2, xr3⟩ := cxr.quad; clear cxr))
  obtain ⟨hxq, zxq, txq⟩ := run_new w2 0 0 0 0 _ rfl
  generalize (w2.alloc (Obj.cells #[Value.int IntKind.i8 0, Value.int IntKind.i64 0, Value.int IntKind.i8 0, Value.int IntKind.i64 0] 26)) = V7 at *
  have exq : w.heap.size ≤ w2.heap.size := (oo.step oc.2).2.size
  have lxq : w2.heap.size < V7.heap.size := by omega
  have ocY := oc.step txq
  have hxa' := hxa.below lxa ocY.2
  have lxa' := Nat.lt_of_lt_of_le lxa ocY.2.size
  have hxb' := hxb.below lxb ocY.2
  have lxb' := Nat.lt_of_lt_of_le lxb ocY.2.size
  have hxp' := hxp.below lxp ocY.2
  have lxp' := Nat.lt_of_lt_of_le lxp ocY.2.size
  have hxr' := hxr.below lxr ocY.2
  have lxr' := Nat.lt_of_lt_of_le lxr ocY.2.size
  (try clear xa0 xa1 xa2 xa3 xb0 xb1 xb2 xb3 xp0 xp1 xp2 xp3 xr0 xr1 xr2 xr3)
  have oo' := oo.step ocY.2
  clear ocY oo oc hxa lxa hxb lxb hxp lxp hxr lxr
  have hxa := hxa'
  have lxa := lxa'
  clear hxa' lxa'
  have hxb := hxb'
  have lxb := lxb'
  clear hxb' lxb'
  have hxp := hxp'
  have lxp := lxp'
  clear hxp' lxp'
  have hxr := hxr'
  have lxr := lxr'
  clear hxr' lxr'
  have oo := oo'
  clear oo'
  have oc := Ok.refl oo.1
  clear txq zxq
  generalize w2.heap.size = gxq at *
  obtain ⟨xa0, xa1, xa2, xa3⟩ := (id hxa).quad
  obtain ⟨xb0, xb1, xb2, xb3⟩ := (id hxb).quad
  obtain ⟨xp0, xp1, xp2, xp3⟩ := (id hxp).quad
  obtain ⟨xr0, xr1, xr2, xr3⟩ := (id hxr).quad
  obtain ⟨xq0, xq1, xq2, xq3⟩ := (id hxq).quad
  clear KK1
  go_upto_region 11 with (go_at_call 14; ((with_reducible refine (KK2.out _ _ (oc.step (by go_grown))).mono ?_); rintro e1 w2 ⟨rfl, hk⟩; (try clear oc); have oc := hk; clear hk; (try clear xa0 xa1 xa2 xa3); have cxa := hxa.below lxa oc.2; obtain ⟨xa0, xa1, xa2, xa3⟩ := cxa.quad; clear cxa; (try clear xb0 xb1 xb2 xb3); have cxb := hxb.below lxb oc.2; obtain ⟨xb0, xb1, xb2, xb3⟩ := cxb.quad; clear cxb; (try clear xp0 xp1 xp2 xp3); have cxp := hxp.below lxp oc.2; obtain ⟨xp0, xp1, xp2, xp3⟩ := cxp.quad; clear cxp; (try clear xr0 xr1 xr2 xr3); have cxr := hxr.below lxr oc.2; obtain ⟨xr0, xr1, xr2, xr3⟩ := cxr.quad; clear cxr; (try clear xq0 xq1 xq2 xq3); have cxq := hxq.below lxq oc.2; obtain ⟨xq0, xq1, xq2, xq3⟩ := cxq.quad; clear cxq))
  obtain ⟨hxs, zxs, txs⟩ := run_new w2 0 0 0 0 _ rfl
  generalize (w2.alloc (Obj.cells #[Value.int IntKind.i8 0, Value.int IntKind.i64 0, Value.int IntKind.i8 0, Value.int IntKind.i64 0] 26)) = V8 at *
  have exs : w.heap.size ≤ w2.heap.size := (oo.step oc.2).2.size
  have lxs : w2.heap.size < V8.heap.size := by omega
  have ocY := oc.step txs
  have hxa' := hxa.below lxa ocY.2
  have lxa' := Nat.lt_of_lt_of_le lxa ocY.2.size
  have hxb' := hxb.below lxb ocY.2
  have lxb' := Nat.lt_of_lt_of_le lxb ocY.2.size
  have hxp' := hxp.below lxp ocY.2
  have lxp' := Nat.lt_of_lt_of_le lxp ocY.2.size
  have hxr' := hxr.below lxr ocY.2
  have lxr' := Nat.lt_of_lt_of_le lxr ocY.2.size
  have hxq' := hxq.below lxq ocY.2
  have lxq' := Nat.lt_of_lt_of_le lxq ocY.2.size
  (try clear xa0 xa1 xa2 xa3 xb0 xb1 xb2 xb3 xp0 xp1 xp2 xp3 xr0 xr1 xr2 xr3 xq0 xq1 xq2 xq3)
  have oo' := oo.step ocY.2
  clear ocY oo oc hxa lxa hxb lxb hxp lxp hxr lxr hxq lxq
  have hxa := hxa'
  have lxa := lxa'
  clear hxa' lxa'
  have hxb := hxb'
  have lxb := lxb'
  clear hxb' lxb'
  have hxp := hxp'
  have lxp := lxp'
  clear hxp' lxp'
  have hxr := hxr'
  have lxr := lxr'
  clear hxr' lxr'
  have hxq := hxq'
  have lxq := lxq'
  clear hxq' lxq'
  have oo := oo'
  clear oo'
  have oc := Ok.refl oo.1
  clear txs zxs
  generalize w2.heap.size = gxs at *
  obtain ⟨xa0, xa1, xa2, xa3⟩ := (id hxa).quad
  obtain ⟨xb0, xb1, xb2, xb3⟩ := (id hxb).quad
  obtain ⟨xp0, xp1, xp2, xp3⟩ := (id hxp).quad
  obtain ⟨xr0, xr1, xr2, xr3⟩ := (id hxr).quad
  obtain ⟨xq0, xq1, xq2, xq3⟩ := (id hxq).quad
  obtain ⟨xs0, xs1, xs2, xs3⟩ := (id hxs).quad
  clear KK2
  (try clear xa0 xa1 xa2 xa3 xb0 xb1 xb2 xb3 xp0 xp1 xp2 xp3 xr0 xr1 xr2 xr3 xq0 xq1 xq2 xq3 xs0 xs1 xs2 xs3)
  have HF := Lib.hid (fun X (h : Ok V8 X) => And.intro (hxa.below lxa h.2).quad (And.intro (hxb.below lxb h.2).quad (And.intro (hxp.below lxp h.2).quad (And.intro (hxr.below lxr h.2).quad (And.intro (hxq.below lxq h.2).quad (And.intro (hxs.below lxs h.2).quad (trivial)))))))
  refine wp_region_G (S := (Ok V8)) (by kernel_rfl) growsB (oc.step (by go_grown)) ?_
  refine tG (i := 0) (o := ?od3n0) (v := ?vd3n0) growsB ?id3n0 (by kernel_rfl) ?qd3n0 ?yd3n0 ?rd3n0
  case id3n0 => (simp only [gA, gZ]; rfl)
  case qd3n0 => exact fun _ _ _ h => h
  case yd3n0 => exact .inl ⟨by rfl, by (intro w hSw; obtain ⟨⟨xa0, xa1, xa2, xa3⟩, ⟨xb0, xb1, xb2, xb3⟩, ⟨xp0, xp1, xp2, xp3⟩, ⟨xr0, xr1, xr2, xr3⟩, ⟨xq0, xq1, xq2, xq3⟩, ⟨xs0, xs1, xs2, xs3⟩, -⟩ := HF.out w hSw; go_simp; try with_reducible rfl)⟩
  (try simp only [Act.put, pA, pZ, pS])
  refine tG (i := 1) (o := ?od3n1) (v := ?vd3n1) growsB ?id3n1 (by kernel_rfl) ?qd3n1 ?yd3n1 ?rd3n1
  case id3n1 => (simp only [gA, gS, gZ]; rfl)
  case qd3n1 => exact fun _ _ _ h => h
  case yd3n1 => exact .inl ⟨by rfl, by (intro w hSw; obtain ⟨⟨xa0, xa1, xa2, xa3⟩, ⟨xb0, xb1, xb2, xb3⟩, ⟨xp0, xp1, xp2, xp3⟩, ⟨xr0, xr1, xr2, xr3⟩, ⟨xq0, xq1, xq2, xq3⟩, ⟨xs0, xs1, xs2, xs3⟩, -⟩ := HF.out w hSw; go_simp; try with_reducible rfl)⟩
  (try simp only [Act.put, pA, pZ, pS])
  refine cG (i := 2) (o := ?od3n2) growsB ?id3n2 (by kernel_rfl) ?qd3n2 ?wd3n2 ?ed3n2 (fun X hX => callO KT1.out hX) ?rd3n2
  case id3n2 => (simp only [gA, gS, gZ]; rfl)
  case qd3n2 => exact fun _ _ _ h => h
  case wd3n2 => rfl
  case ed3n2 => (intro w; go_simp; try with_reducible rfl)
  (try simp only [Act.put, pA, pZ, pS])
  refine tG (i := 3) (o := ?od3n3) (v := ?vd3n3) growsB ?id3n3 (by kernel_rfl) ?qd3n3 ?yd3n3 ?rd3n3
  case id3n3 => (simp only [gA, gS, gZ]; rfl)
  case qd3n3 => exact fun _ _ _ h => h
  case yd3n3 => exact .inl ⟨by rfl, by (intro w _; go_simp; try with_reducible rfl)⟩
  (try simp only [Act.put, pA, pZ, pS])
  refine tG (i := 4) (o := ?od3n4) (v := ?vd3n4) growsB ?id3n4 (by kernel_rfl) ?qd3n4 ?yd3n4 ?rd3n4
  case id3n4 => (simp only [gA, gS, gZ]; rfl)
  case qd3n4 => exact fun _ _ _ h => h
  case yd3n4 => exact .inl ⟨by rfl, by (intro w _; go_simp; try with_reducible rfl)⟩
  (try simp only [Act.put, pA, pZ, pS])
  refine tG (i := 5) (o := ?od3n5) (v := ?vd3n5) growsB ?id3n5 (by kernel_rfl) ?qd3n5 ?yd3n5 ?rd3n5
  case id3n5 => (simp only [gA, gS, gZ]; rfl)
  case qd3n5 => exact fun _ _ _ h => h
  case yd3n5 => exact .inl ⟨by rfl, by (intro w _; go_simp; try with_reducible rfl)⟩
  (try simp only [Act.put, pA, pZ, pS])
  refine tG (i := 6) (o := ?od3n6) (v := ?vd3n6) growsB ?id3n6 (by kernel_rfl) ?qd3n6 ?yd3n6 ?rd3n6
  case id3n6 => (simp only [gA, gS, gZ]; rfl)
  case qd3n6 => exact fun _ _ _ h => h
  case yd3n6 => exact .inl ⟨by rfl, by (intro w hSw; obtain ⟨⟨xa0, xa1, xa2, xa3⟩, ⟨xb0, xb1, xb2, xb3⟩, ⟨xp0, xp1, xp2, xp3⟩, ⟨xr0, xr1, xr2, xr3⟩, ⟨xq0, xq1, xq2, xq3⟩, ⟨xs0, xs1, xs2, xs3⟩, -⟩ := HF.out w hSw; go_simp; try with_reducible rfl)⟩
  (try simp only [Act.put, pA, pZ, pS])
  refine tG (i := 7) (o := ?od3n7) (v := ?vd3n7) growsB ?id3n7 (by kernel_rfl) ?qd3n7 ?yd3n7 ?rd3n7
  case id3n7 => (simp only [gA, gS, gZ]; rfl)
  case qd3n7 => exact fun _ _ _ h => h
  case yd3n7 => exact .inl ⟨by rfl, by (intro w hSw; obtain ⟨⟨xa0, xa1, xa2, xa3⟩, ⟨xb0, xb1, xb2, xb3⟩, ⟨xp0, xp1, xp2, xp3⟩, ⟨xr0, xr1, xr2, xr3⟩, ⟨xq0, xq1, xq2, xq3⟩, ⟨xs0, xs1, xs2, xs3⟩, -⟩ := HF.out w hSw; go_simp; try with_reducible rfl)⟩
  (try simp only [Act.put, pA, pZ, pS])
  refine cG (i := 8) (o := ?od3n8) growsB ?id3n8 (by kernel_rfl) ?qd3n8 ?wd3n8 ?ed3n8 (fun X hX => callO KT2.out hX) ?rd3n8
  case id3n8 => (simp only [gA, gS, gZ]; rfl)
  case qd3n8 => exact fun _ _ _ h => h
  case wd3n8 => rfl
  case ed3n8 => (intro w; go_simp; try with_reducible rfl)
  (try simp only [Act.put, pA, pZ, pS])
  refine tG (i := 9) (o := ?od3n9) (v := ?vd3n9) growsB ?id3n9 (by kernel_rfl) ?qd3n9 ?yd3n9 ?rd3n9
  case id3n9 => (simp only [gA, gS, gZ]; rfl)
  case qd3n9 => exact fun _ _ _ h => h
  case yd3n9 => exact .inl ⟨by rfl, by (intro w _; go_simp; try with_reducible rfl)⟩
  (try simp only [Act.put, pA, pZ, pS])
  refine tG (i := 10) (o := ?od3n10) (v := ?vd3n10) growsB ?id3n10 (by kernel_rfl) ?qd3n10 ?yd3n10 ?rd3n10
  case id3n10 => (simp only [gA, gS, gZ]; rfl)
  case qd3n10 => exact fun _ _ _ h => h
  case yd3n10 => exact .inl ⟨by rfl, by (intro w _; go_simp; try with_reducible rfl)⟩
  (try simp only [Act.put, pA, pZ, pS])
  refine tG (i := 11) (o := ?od3n11) (v := ?vd3n11) growsB ?id3n11 (by kernel_rfl) ?qd3n11 ?yd3n11 ?rd3n11
  case id3n11 => (simp only [gA, gS, gZ]; rfl)
  case qd3n11 => exact fun _ _ _ h => h
  case yd3n11 => exact .inl ⟨by rfl, by (intro w _; go_simp; try with_reducible rfl)⟩
  (try simp only [Act.put, pA, pZ, pS])
  refine tG (i := 12) (o := ?od3n12) (v := ?vd3n12) growsB ?id3n12 (by kernel_rfl) ?qd3n12 ?yd3n12 ?rd3n12
  case id3n12 => (simp only [gA, gS, gZ]; rfl)
  case qd3n12 => exact fun _ _ _ h => h
  case yd3n12 => exact .inl ⟨by rfl, by (intro w _; go_simp; try with_reducible rfl)⟩
  (try simp only [Act.put, pA, pZ, pS])
  refine tG (i := 13) (o := ?od3n13) (v := ?vd3n13) growsB ?id3n13 (by kernel_rfl) ?qd3n13 ?yd3n13 ?rd3n13
  case id3n13 => (simp only [gA, gS, gZ]; rfl)
  case qd3n13 => exact fun _ _ _ h => h
  case yd3n13 => exact .inl ⟨by rfl, by (intro w hSw; obtain ⟨⟨xa0, xa1, xa2, xa3⟩, ⟨xb0, xb1, xb2, xb3⟩, ⟨xp0, xp1, xp2, xp3⟩, ⟨xr0, xr1, xr2, xr3⟩, ⟨xq0, xq1, xq2, xq3⟩, ⟨xs0, xs1, xs2, xs3⟩, -⟩ := HF.out w hSw; go_simp; try with_reducible rfl)⟩
  (try simp only [Act.put, pA, pZ, pS])
  refine tG (i := 14) (o := ?od3n14) (v := ?vd3n14) growsB ?id3n14 (by kernel_rfl) ?qd3n14 ?yd3n14 ?rd3n14
  case id3n14 => (simp only [gA, gS, gZ]; rfl)
  case qd3n14 => exact fun _ _ _ h => h
  case yd3n14 => exact .inl ⟨by rfl, by (intro w _; go_simp; try with_reducible rfl)⟩
  (try simp only [Act.put, pA, pZ, pS])
  refine tG (i := 15) (o := ?od3n15) (v := ?vd3n15) growsB ?id3n15 (by kernel_rfl) ?qd3n15 ?yd3n15 ?rd3n15
  case id3n15 => (simp only [gA, gS, gZ]; rfl)
  case qd3n15 => exact fun _ _ _ h => h
  case yd3n15 => exact .inl ⟨by rfl, by (intro w hSw; obtain ⟨⟨xa0, xa1, xa2, xa3⟩, ⟨xb0, xb1, xb2, xb3⟩, ⟨xp0, xp1, xp2, xp3⟩, ⟨xr0, xr1, xr2, xr3⟩, ⟨xq0, xq1, xq2, xq3⟩, ⟨xs0, xs1, xs2, xs3⟩, -⟩ := HF.out w hSw; go_simp; try with_reducible rfl)⟩
  (try simp only [Act.put, pA, pZ, pS])
  refine tG (i := 16) (o := ?od3n16) (v := ?vd3n16) growsB ?id3n16 (by kernel_rfl) ?qd3n16 ?yd3n16 ?rd3n16
  case id3n16 => (simp only [gA, gS, gZ]; rfl)
  case qd3n16 => exact fun _ _ _ h => h
  case yd3n16 => exact .inl ⟨by rfl, by (intro w hSw; obtain ⟨⟨xa0, xa1, xa2, xa3⟩, ⟨xb0, xb1, xb2, xb3⟩, ⟨xp0, xp1, xp2, xp3⟩, ⟨xr0, xr1, xr2, xr3⟩, ⟨xq0, xq1, xq2, xq3⟩, ⟨xs0, xs1, xs2, xs3⟩, -⟩ := HF.out w hSw; go_simp; try with_reducible rfl)⟩
  (try simp only [Act.put, pA, pZ, pS])
  refine cG (i := 17) (o := ?od3n17) growsB ?id3n17 (by kernel_rfl) ?qd3n17 ?wd3n17 ?ed3n17 (fun X hX => callO KRJ.out hX) ?rd3n17
  case id3n17 => (simp only [gA, gS, gZ]; rfl)
  case qd3n17 => exact fun _ _ _ h => h
  case wd3n17 => rfl
  case ed3n17 => (intro w; go_simp; try with_reducible rfl)
  (try simp only [Act.put, pA, pZ, pS])
  refine tG (i := 18) (o := ?od3n18) (v := ?vd3n18) growsB ?id3n18 (by kernel_rfl) ?qd3n18 ?yd3n18 ?rd3n18
  case id3n18 => (simp only [gA, gS, gZ]; rfl)
  case qd3n18 => exact fun _ _ _ h => h
  case yd3n18 => exact .inl ⟨by rfl, by (intro w _; go_simp; try with_reducible rfl)⟩
  (try simp only [Act.put, pA, pZ, pS])
  refine cG (i := 19) (o := ?od3n19) growsB ?id3n19 (by kernel_rfl) ?qd3n19 ?wd3n19 ?ed3n19 (fun X hX => callO KF1.out hX) ?rd3n19
  case id3n19 => (simp only [gA, gS, gZ]; rfl)
  case qd3n19 => exact fun _ _ _ h => h
  case wd3n19 => rfl
  case ed3n19 => (intro w; go_simp; try with_reducible rfl)
  (try simp only [Act.put, pA, pZ, pS])
  refine tG (i := 20) (o := ?od3n20) (v := ?vd3n20) growsB ?id3n20 (by kernel_rfl) ?qd3n20 ?yd3n20 ?rd3n20
  case id3n20 => (simp only [gA, gS, gZ]; rfl)
  case qd3n20 => exact fun _ _ _ h => h
  case yd3n20 => exact .inl ⟨by rfl, by (intro w _; go_simp; try with_reducible rfl)⟩
  (try simp only [Act.put, pA, pZ, pS])
  refine tG (i := 21) (o := ?od3n21) (v := ?vd3n21) growsB ?id3n21 (by kernel_rfl) ?qd3n21 ?yd3n21 ?rd3n21
  case id3n21 => (simp only [gA, gS, gZ]; rfl)
  case qd3n21 => exact fun _ _ _ h => h
  case yd3n21 => exact .inl ⟨by rfl, by (intro w _; go_simp; try with_reducible rfl)⟩
  (try simp only [Act.put, pA, pZ, pS])
  refine tG (i := 22) (o := ?od3n22) (v := ?vd3n22) growsB ?id3n22 (by kernel_rfl) ?qd3n22 ?yd3n22 ?rd3n22
  case id3n22 => (simp only [gA, gS, gZ]; rfl)
  case qd3n22 => exact fun _ _ _ h => h
  case yd3n22 => exact .inl ⟨by rfl, by (intro w _; go_simp; try with_reducible rfl)⟩
  (try simp only [Act.put, pA, pZ, pS])
  refine tG (i := 23) (o := ?od3n23) (v := ?vd3n23) growsB ?id3n23 (by kernel_rfl) ?qd3n23 ?yd3n23 ?rd3n23
  case id3n23 => (simp only [gA, gS, gZ]; rfl)
  case qd3n23 => exact fun _ _ _ h => h
  case yd3n23 => exact .inl ⟨by rfl, by (intro w hSw; obtain ⟨⟨xa0, xa1, xa2, xa3⟩, ⟨xb0, xb1, xb2, xb3⟩, ⟨xp0, xp1, xp2, xp3⟩, ⟨xr0, xr1, xr2, xr3⟩, ⟨xq0, xq1, xq2, xq3⟩, ⟨xs0, xs1, xs2, xs3⟩, -⟩ := HF.out w hSw; go_simp; try with_reducible rfl)⟩
  (try simp only [Act.put, pA, pZ, pS])
  refine tG (i := 24) (o := ?od3n24) (v := ?vd3n24) growsB ?id3n24 (by kernel_rfl) ?qd3n24 ?yd3n24 ?rd3n24
  case id3n24 => (simp only [gA, gS, gZ]; rfl)
  case qd3n24 => exact fun _ _ _ h => h
  case yd3n24 => exact .inl ⟨by rfl, by (intro w hSw; obtain ⟨⟨xa0, xa1, xa2, xa3⟩, ⟨xb0, xb1, xb2, xb3⟩, ⟨xp0, xp1, xp2, xp3⟩, ⟨xr0, xr1, xr2, xr3⟩, ⟨xq0, xq1, xq2, xq3⟩, ⟨xs0, xs1, xs2, xs3⟩, -⟩ := HF.out w hSw; go_simp; try with_reducible rfl)⟩
  (try simp only [Act.put, pA, pZ, pS])
  refine tG (i := 25) (o := ?od3n25) (v := ?vd3n25) growsB ?id3n25 (by kernel_rfl) ?qd3n25 ?yd3n25 ?rd3n25
  case id3n25 => (simp only [gA, gS, gZ]; rfl)
  case qd3n25 => exact fun _ _ _ h => h
  case yd3n25 => exact .inl ⟨by rfl, by (intro w _; go_simp; try with_reducible rfl)⟩
  (try simp only [Act.put, pA, pZ, pS])
  refine tG (i := 26) (o := ?od3n26) (v := ?vd3n26) growsB ?id3n26 (by kernel_rfl) ?qd3n26 ?yd3n26 ?rd3n26
  case id3n26 => (simp only [gA, gS, gZ]; rfl)
  case qd3n26 => exact fun _ _ _ h => h
  case yd3n26 => exact .inl ⟨by rfl, by (intro w _; go_simp; try with_reducible rfl)⟩
  (try simp only [Act.put, pA, pZ, pS])
  refine tG (i := 27) (o := ?od3n27) (v := ?vd3n27) growsB ?id3n27 (by kernel_rfl) ?qd3n27 ?yd3n27 ?rd3n27
  case id3n27 => (simp only [gA, gS, gZ]; rfl)
  case qd3n27 => exact fun _ _ _ h => h
  case yd3n27 => exact .inl ⟨by rfl, by (intro w _; go_simp; try with_reducible rfl)⟩
  (try simp only [Act.put, pA, pZ, pS])
  refine tG (i := 28) (o := ?od3n28) (v := ?vd3n28) growsB ?id3n28 (by kernel_rfl) ?qd3n28 ?yd3n28 ?rd3n28
  case id3n28 => (simp only [gA, gS, gZ]; rfl)
  case qd3n28 => exact fun _ _ _ h => h
  case yd3n28 => exact .inl ⟨by rfl, by (intro w _; go_simp; try with_reducible rfl)⟩
  (try simp only [Act.put, pA, pZ, pS])
  refine tG (i := 29) (o := ?od3n29) (v := ?vd3n29) growsB ?id3n29 (by kernel_rfl) ?qd3n29 ?yd3n29 ?rd3n29
  case id3n29 => (simp only [gA, gS, gZ]; rfl)
  case qd3n29 => exact fun _ _ _ h => h
  case yd3n29 => exact .inl ⟨by rfl, by (intro w _; go_simp; try with_reducible rfl)⟩
  (try simp only [Act.put, pA, pZ, pS])
  refine tG (i := 30) (o := ?od3n30) (v := ?vd3n30) growsB ?id3n30 (by kernel_rfl) ?qd3n30 ?yd3n30 ?rd3n30
  case id3n30 => (simp only [gA, gS, gZ]; rfl)
  case qd3n30 => exact fun _ _ _ h => h
  case yd3n30 => exact .inl ⟨by rfl, by (intro w _; go_simp; try with_reducible rfl)⟩
  (try simp only [Act.put, pA, pZ, pS])
  refine tG (i := 31) (o := ?od3n31) (v := ?vd3n31) growsB ?id3n31 (by kernel_rfl) ?qd3n31 ?yd3n31 ?rd3n31
  case id3n31 => (simp only [gA, gS, gZ]; rfl)
  case qd3n31 => exact fun _ _ _ h => h
  case yd3n31 => exact .inl ⟨by rfl, by (intro w _; go_simp; try with_reducible rfl)⟩
  (try simp only [Act.put, pA, pZ, pS])
  refine tG (i := 32) (o := ?od3n32) (v := ?vd3n32) growsB ?id3n32 (by kernel_rfl) ?qd3n32 ?yd3n32 ?rd3n32
  case id3n32 => (simp only [gA, gS, gZ]; rfl)
  case qd3n32 => exact fun _ _ _ h => h
  case yd3n32 => exact .inl ⟨by rfl, by (intro w _; go_simp; try with_reducible rfl)⟩
  (try simp only [Act.put, pA, pZ, pS])
  refine tG (i := 33) (o := ?od3n33) (v := ?vd3n33) growsB ?id3n33 (by kernel_rfl) ?qd3n33 ?yd3n33 ?rd3n33
  case id3n33 => (simp only [gA, gS, gZ]; rfl)
  case qd3n33 => exact fun _ _ _ h => h
  case yd3n33 => exact .inl ⟨by rfl, by (intro w hSw; obtain ⟨⟨xa0, xa1, xa2, xa3⟩, ⟨xb0, xb1, xb2, xb3⟩, ⟨xp0, xp1, xp2, xp3⟩, ⟨xr0, xr1, xr2, xr3⟩, ⟨xq0, xq1, xq2, xq3⟩, ⟨xs0, xs1, xs2, xs3⟩, -⟩ := HF.out w hSw; go_simp; try with_reducible rfl)⟩
  (try simp only [Act.put, pA, pZ, pS])
  refine tG (i := 34) (o := ?od3n34) (v := ?vd3n34) growsB ?id3n34 (by kernel_rfl) ?qd3n34 ?yd3n34 ?rd3n34
  case id3n34 => (simp only [gA, gS, gZ]; rfl)
  case qd3n34 => exact fun _ _ _ h => h
  case yd3n34 => exact .inl ⟨by rfl, by (intro w _; go_simp; try with_reducible rfl)⟩
  (try simp only [Act.put, pA, pZ, pS])
  refine tG (i := 35) (o := ?od3n35) (v := ?vd3n35) growsB ?id3n35 (by kernel_rfl) ?qd3n35 ?yd3n35 ?rd3n35
  case id3n35 => (simp only [gA, gS, gZ]; rfl)
  case qd3n35 => exact fun _ _ _ h => h
  case yd3n35 => exact .inl ⟨by rfl, by (intro w hSw; obtain ⟨⟨xa0, xa1, xa2, xa3⟩, ⟨xb0, xb1, xb2, xb3⟩, ⟨xp0, xp1, xp2, xp3⟩, ⟨xr0, xr1, xr2, xr3⟩, ⟨xq0, xq1, xq2, xq3⟩, ⟨xs0, xs1, xs2, xs3⟩, -⟩ := HF.out w hSw; go_simp; try with_reducible rfl)⟩
  (try simp only [Act.put, pA, pZ, pS])
  refine tG (i := 36) (o := ?od3n36) (v := ?vd3n36) growsB ?id3n36 (by kernel_rfl) ?qd3n36 ?yd3n36 ?rd3n36
  case id3n36 => (simp only [gA, gS, gZ]; rfl)
  case qd3n36 => exact fun _ _ _ h => h
  case yd3n36 => exact .inl ⟨by rfl, by (intro w hSw; obtain ⟨⟨xa0, xa1, xa2, xa3⟩, ⟨xb0, xb1, xb2, xb3⟩, ⟨xp0, xp1, xp2, xp3⟩, ⟨xr0, xr1, xr2, xr3⟩, ⟨xq0, xq1, xq2, xq3⟩, ⟨xs0, xs1, xs2, xs3⟩, -⟩ := HF.out w hSw; go_simp; try with_reducible rfl)⟩
  (try simp only [Act.put, pA, pZ, pS])
  refine cG (i := 37) (o := ?od3n37) growsB ?id3n37 (by kernel_rfl) ?qd3n37 ?wd3n37 ?ed3n37 (fun X hX => callO KRK.out hX) ?rd3n37
  case id3n37 => (simp only [gA, gS, gZ]; rfl)
  case qd3n37 => exact fun _ _ _ h => h
  case wd3n37 => rfl
  case ed3n37 => (intro w; go_simp; try with_reducible rfl)
  (try simp only [Act.put, pA, pZ, pS])
  refine tG (i := 38) (o := ?od3n38) (v := ?vd3n38) growsB ?id3n38 (by kernel_rfl) ?qd3n38 ?yd3n38 ?rd3n38
  case id3n38 => (simp only [gA, gS, gZ]; rfl)
  case qd3n38 => exact fun _ _ _ h => h
  case yd3n38 => exact .inl ⟨by rfl, by (intro w _; go_simp; try with_reducible rfl)⟩
  (try simp only [Act.put, pA, pZ, pS])
  refine cG (i := 39) (o := ?od3n39) growsB ?id3n39 (by kernel_rfl) ?qd3n39 ?wd3n39 ?ed3n39 (fun X hX => callO KF2.out hX) ?rd3n39
  case id3n39 => (simp only [gA, gS, gZ]; rfl)
  case qd3n39 => exact fun _ _ _ h => h
  case wd3n39 => rfl
  case ed3n39 => (intro w; go_simp; try with_reducible rfl)
  (try simp only [Act.put, pA, pZ, pS])
  refine tG (i := 40) (o := ?od3n40) (v := ?vd3n40) growsB ?id3n40 (by kernel_rfl) ?qd3n40 ?yd3n40 ?rd3n40
  case id3n40 => (simp only [gA, gS, gZ]; rfl)
  case qd3n40 => exact fun _ _ _ h => h
  case yd3n40 => exact .inl ⟨by rfl, by (intro w _; go_simp; try with_reducible rfl)⟩
  (try simp only [Act.put, pA, pZ, pS])
  refine tG (i := 41) (o := ?od3n41) (v := ?vd3n41) growsB ?id3n41 (by kernel_rfl) ?qd3n41 ?yd3n41 ?rd3n41
  case id3n41 => (simp only [gA, gS, gZ]; rfl)
  case qd3n41 => exact fun _ _ _ h => h
  case yd3n41 => exact .inl ⟨by rfl, by (intro w _; go_simp; try with_reducible rfl)⟩
  (try simp only [Act.put, pA, pZ, pS])
  refine tG (i := 42) (o := ?od3n42) (v := ?vd3n42) growsB ?id3n42 (by kernel_rfl) ?qd3n42 ?yd3n42 ?rd3n42
  case id3n42 => (simp only [gA, gS, gZ]; rfl)
  case qd3n42 => exact fun _ _ _ h => h
  case yd3n42 => exact .inl ⟨by rfl, by (intro w _; go_simp; try with_reducible rfl)⟩
  (try simp only [Act.put, pA, pZ, pS])
  refine tG (i := 43) (o := ?od3n43) (v := ?vd3n43) growsB ?id3n43 (by kernel_rfl) ?qd3n43 ?yd3n43 ?rd3n43
  case id3n43 => (simp only [gA, gS, gZ]; rfl)
  case qd3n43 => exact fun _ _ _ h => h
  case yd3n43 => exact .inl ⟨by rfl, by (intro w hSw; obtain ⟨⟨xa0, xa1, xa2, xa3⟩, ⟨xb0, xb1, xb2, xb3⟩, ⟨xp0, xp1, xp2, xp3⟩, ⟨xr0, xr1, xr2, xr3⟩, ⟨xq0, xq1, xq2, xq3⟩, ⟨xs0, xs1, xs2, xs3⟩, -⟩ := HF.out w hSw; go_simp; try with_reducible rfl)⟩
  (try simp only [Act.put, pA, pZ, pS])
  refine tG (i := 44) (o := ?od3n44) (v := ?vd3n44) growsB ?id3n44 (by kernel_rfl) ?qd3n44 ?yd3n44 ?rd3n44
  case id3n44 => (simp only [gA, gS, gZ]; rfl)
  case qd3n44 => exact fun _ _ _ h => h
  case yd3n44 => exact .inl ⟨by rfl, by (intro w hSw; obtain ⟨⟨xa0, xa1, xa2, xa3⟩, ⟨xb0, xb1, xb2, xb3⟩, ⟨xp0, xp1, xp2, xp3⟩, ⟨xr0, xr1, xr2, xr3⟩, ⟨xq0, xq1, xq2, xq3⟩, ⟨xs0, xs1, xs2, xs3⟩, -⟩ := HF.out w hSw; go_simp; try with_reducible rfl)⟩
  (try simp only [Act.put, pA, pZ, pS])
  refine tG (i := 45) (o := ?od3n45) (v := ?vd3n45) growsB ?id3n45 (by kernel_rfl) ?qd3n45 ?yd3n45 ?rd3n45
  case id3n45 => (simp only [gA, gS, gZ]; rfl)
  case qd3n45 => exact fun _ _ _ h => h
  case yd3n45 => exact .inl ⟨by rfl, by (intro w _; go_simp; try with_reducible rfl)⟩
  (try simp only [Act.put, pA, pZ, pS])
  refine tG (i := 46) (o := ?od3n46) (v := ?vd3n46) growsB ?id3n46 (by kernel_rfl) ?qd3n46 ?yd3n46 ?rd3n46
  case id3n46 => (simp only [gA, gS, gZ]; rfl)
  case qd3n46 => exact fun _ _ _ h => h
  case yd3n46 => exact .inl ⟨by rfl, by (intro w _; go_simp; try with_reducible rfl)⟩
  (try simp only [Act.put, pA, pZ, pS])
  refine tG (i := 47) (o := ?od3n47) (v := ?vd3n47) growsB ?id3n47 (by kernel_rfl) ?qd3n47 ?yd3n47 ?rd3n47
  case id3n47 => (simp only [gA, gS, gZ]; rfl)
  case qd3n47 => exact fun _ _ _ h => h
  case yd3n47 => exact .inl ⟨by rfl, by (intro w _; go_simp; try with_reducible rfl)⟩
  (try simp only [Act.put, pA, pZ, pS])
  refine tG (i := 48) (o := ?od3n48) (v := ?vd3n48) growsB ?id3n48 (by kernel_rfl) ?qd3n48 ?yd3n48 ?rd3n48
  case id3n48 => (simp only [gA, gS, gZ]; rfl)
  case qd3n48 => exact fun _ _ _ h => h
  case yd3n48 => exact .inl ⟨by rfl, by (intro w _; go_simp; try with_reducible rfl)⟩
  (try simp only [Act.put, pA, pZ, pS])
  refine tG (i := 49) (o := ?od3n49) (v := ?vd3n49) growsB ?id3n49 (by kernel_rfl) ?qd3n49 ?yd3n49 ?rd3n49
  case id3n49 => (simp only [gA, gS, gZ]; rfl)
  case qd3n49 => exact fun _ _ _ h => h
  case yd3n49 => exact .inl ⟨by rfl, by (intro w _; go_simp; try with_reducible rfl)⟩
  (try simp only [Act.put, pA, pZ, pS])
  refine tG (i := 50) (o := ?od3n50) (v := ?vd3n50) growsB ?id3n50 (by kernel_rfl) ?qd3n50 ?yd3n50 ?rd3n50
  case id3n50 => (simp only [gA, gS, gZ]; rfl)
  case qd3n50 => exact fun _ _ _ h => h
  case yd3n50 => exact .inl ⟨by rfl, by (intro w _; go_simp; try with_reducible rfl)⟩
  (try simp only [Act.put, pA, pZ, pS])
  refine tG (i := 51) (o := ?od3n51) (v := ?vd3n51) growsB ?id3n51 (by kernel_rfl) ?qd3n51 ?yd3n51 ?rd3n51
  case id3n51 => (simp only [gA, gS, gZ]; rfl)
  case qd3n51 => exact fun _ _ _ h => h
  case yd3n51 => exact .inl ⟨by rfl, by (intro w _; go_simp; try with_reducible rfl)⟩
  (try simp only [Act.put, pA, pZ, pS])
  refine wpAnyG_done (by kernel_rfl) ?_ _
  (try clear hX)
  intro w9 hX hT
  clear HF
  have oc := hX
  clear hX hT
  generalize w9 = V9 at *
  have ocY := oc
  have hxa' := hxa.below lxa ocY.2
  have lxa' := Nat.lt_of_lt_of_le lxa ocY.2.size
  have hxb' := hxb.below lxb ocY.2
  have lxb' := Nat.lt_of_lt_of_le lxb ocY.2.size
  have hxp' := hxp.below lxp ocY.2
  have lxp' := Nat.lt_of_lt_of_le lxp ocY.2.size
  have hxr' := hxr.below lxr ocY.2
  have lxr' := Nat.lt_of_lt_of_le lxr ocY.2.size
  have hxq' := hxq.below lxq ocY.2
  have lxq' := Nat.lt_of_lt_of_le lxq ocY.2.size
  have hxs' := hxs.below lxs ocY.2
  have lxs' := Nat.lt_of_lt_of_le lxs ocY.2.size
  (try clear xa0 xa1 xa2 xa3 xb0 xb1 xb2 xb3 xp0 xp1 xp2 xp3 xr0 xr1 xr2 xr3 xq0 xq1 xq2 xq3 xs0 xs1 xs2 xs3)
  have oo' := oo.step ocY.2
  clear ocY oo oc hxa lxa hxb lxb hxp lxp hxr lxr hxq lxq hxs lxs
  have hxa := hxa'
  have lxa := lxa'
  clear hxa' lxa'
  have hxb := hxb'
  have lxb := lxb'
  clear hxb' lxb'
  have hxp := hxp'
  have lxp := lxp'
  clear hxp' lxp'
  have hxr := hxr'
  have lxr := lxr'
  clear hxr' lxr'
  have hxq := hxq'
  have lxq := lxq'
  clear hxq' lxq'
  have hxs := hxs'
  have lxs := lxs'
  clear hxs' lxs'
  have oo := oo'
  clear oo'
  have oc := Ok.refl oo.1
  obtain ⟨xa0, xa1, xa2, xa3⟩ := (id hxa).quad
  obtain ⟨xb0, xb1, xb2, xb3⟩ := (id hxb).quad
  obtain ⟨xp0, xp1, xp2, xp3⟩ := (id hxp).quad
  obtain ⟨xr0, xr1, xr2, xr3⟩ := (id hxr).quad
  obtain ⟨xq0, xq1, xq2, xq3⟩ := (id hxq).quad
  obtain ⟨xs0, xs1, xs2, xs3⟩ := (id hxs).quad
  clear KT1 KT2 KRJ KF1 KRK KF2
  (try clear xr0 xr1 xr2 xr3)
  (try clear hxr lxr)
  (try clear exr)
  (try clear xs0 xs1 xs2 xs3)
  (try clear hxs lxs)
  (try clear exs)
  go_upto_region 15 with (first
      | (go_at_call 19; ((with_reducible refine (KW.out _ _ (oc.step (by go_grown))).mono ?_); rintro e1 w2 ⟨rfl, hk⟩; (try clear oc); have oc := hk; clear hk; (try clear xa0 xa1 xa2 xa3); have cxa := hxa.below lxa oc.2; obtain ⟨xa0, xa1, xa2, xa3⟩ := cxa.quad; clear cxa; (try clear xb0 xb1 xb2 xb3); have cxb := hxb.below lxb oc.2; obtain ⟨xb0, xb1, xb2, xb3⟩ := cxb.quad; clear cxb; (try clear xp0 xp1 xp2 xp3); have cxp := hxp.below lxp oc.2; obtain ⟨xp0, xp1, xp2, xp3⟩ := cxp.quad; clear cxp; (try clear xq0 xq1 xq2 xq3); have cxq := hxq.below lxq oc.2; obtain ⟨xq0, xq1, xq2, xq3⟩ := cxq.quad; clear cxq))
      | (go_at_call 21; ((with_reducible refine (KHa.out _ _ (oc.step (by go_grown))).mono ?_); rintro e1 w2 ⟨rfl, hk⟩; (try clear oc); have oc := hk; clear hk; (try clear xa0 xa1 xa2 xa3); have cxa := hxa.below lxa oc.2; obtain ⟨xa0, xa1, xa2, xa3⟩ := cxa.quad; clear cxa; (try clear xb0 xb1 xb2 xb3); have cxb := hxb.below lxb oc.2; obtain ⟨xb0, xb1, xb2, xb3⟩ := cxb.quad; clear cxb; (try clear xp0 xp1 xp2 xp3); have cxp := hxp.below lxp oc.2; obtain ⟨xp0, xp1, xp2, xp3⟩ := cxp.quad; clear cxp; (try clear xq0 xq1 xq2 xq3); have cxq := hxq.below lxq oc.2; obtain ⟨xq0, xq1, xq2, xq3⟩ := cxq.quad; clear cxq)))
  generalize w2 = V10 at *
  have ocY := oc
  have hxa' := hxa.below lxa ocY.2
  have lxa' := Nat.lt_of_lt_of_le lxa ocY.2.size
  have hxb' := hxb.below lxb ocY.2
  have lxb' := Nat.lt_of_lt_of_le lxb ocY.2.size
  have hxp' := hxp.below lxp ocY.2
  have lxp' := Nat.lt_of_lt_of_le lxp ocY.2.size
  have hxq' := hxq.below lxq ocY.2
  have lxq' := Nat.lt_of_lt_of_le lxq ocY.2.size
  (try clear xa0 xa1 xa2 xa3 xb0 xb1 xb2 xb3 xp0 xp1 xp2 xp3 xq0 xq1 xq2 xq3)
  have oo' := oo.step ocY.2
  clear ocY oo oc hxa lxa hxb lxb hxp lxp hxq lxq
  have hxa := hxa'
  have lxa := lxa'
  clear hxa' lxa'
  have hxb := hxb'
  have lxb := lxb'
  clear hxb' lxb'
  have hxp := hxp'
  have lxp := lxp'
  clear hxp' lxp'
  have hxq := hxq'
  have lxq := lxq'
  clear hxq' lxq'
  have oo := oo'
  clear oo'
  have oc := Ok.refl oo.1
  obtain ⟨xa0, xa1, xa2, xa3⟩ := (id hxa).quad
  obtain ⟨xb0, xb1, xb2, xb3⟩ := (id hxb).quad
  obtain ⟨xp0, xp1, xp2, xp3⟩ := (id hxp).quad
  obtain ⟨xq0, xq1, xq2, xq3⟩ := (id hxq).quad
  clear KW KHa
  (try clear xa0 xa1 xa2 xa3 xb0 xb1 xb2 xb3 xp0 xp1 xp2 xp3 xq0 xq1 xq2 xq3)
  have HF := Lib.hid (fun X (h : Ok V10 X) => And.intro (hxa.below lxa h.2).quad (And.intro (hxb.below lxb h.2).quad (And.intro (hxp.below lxp h.2).quad (And.intro (hxq.below lxq h.2).quad (trivial)))))
  refine wp_region_G (S := (Ok V10)) (by kernel_rfl) growsB (oc.step (by go_grown)) ?_
  refine tG (i := 0) (o := ?od4n0) (v := ?vd4n0) growsB ?id4n0 (by kernel_rfl) ?qd4n0 ?yd4n0 ?rd4n0
  case id4n0 => (simp only [gA, gZ]; rfl)
  case qd4n0 => exact fun _ _ _ h => h
  case yd4n0 => exact .inl ⟨by rfl, by (intro w _; go_simp; try with_reducible rfl)⟩
  (try simp only [Act.put, pA, pZ, pS])
  refine tG (i := 1) (o := ?od4n1) (v := ?vd4n1) growsB ?id4n1 (by kernel_rfl) ?qd4n1 ?yd4n1 ?rd4n1
  case id4n1 => (simp only [gA, gS, gZ]; rfl)
  case qd4n1 => exact fun _ _ _ h => h
  case yd4n1 => exact .inl ⟨by rfl, by (intro w _; go_simp; try with_reducible rfl)⟩
  (try simp only [Act.put, pA, pZ, pS])
  refine tG (i := 2) (o := ?od4n2) (v := undef) growsB ?id4n2 (by kernel_rfl) ?qd4n2 ?yd4n2 ?rd4n2
  case id4n2 => (simp only [gA, gS, gZ]; rfl)
  case qd4n2 => exact fun _ _ _ h => h
  case yd4n2 => exact .inr ⟨rfl, rfl⟩
  (try simp only [Act.put, pA, pZ, pS])
  refine tG (i := 3) (o := ?od4n3) (v := undef) growsB ?id4n3 (by kernel_rfl) ?qd4n3 ?yd4n3 ?rd4n3
  case id4n3 => (simp only [gA, gS, gZ]; rfl)
  case qd4n3 => exact fun _ _ _ h => h
  case yd4n3 => exact .inr ⟨rfl, rfl⟩
  (try simp only [Act.put, pA, pZ, pS])
  refine tG (i := 4) (o := ?od4n4) (v := undef) growsB ?id4n4 (by kernel_rfl) ?qd4n4 ?yd4n4 ?rd4n4
  case id4n4 => (simp only [gA, gS, gZ]; rfl)
  case qd4n4 => exact fun _ _ _ h => h
  case yd4n4 => exact .inr ⟨rfl, rfl⟩
  (try simp only [Act.put, pA, pZ, pS])
  refine tG (i := 5) (o := ?od4n5) (v := undef) growsB ?id4n5 (by kernel_rfl) ?qd4n5 ?yd4n5 ?rd4n5
  case id4n5 => (simp only [gA, gS, gZ]; rfl)
  case qd4n5 => exact fun _ _ _ h => h
  case yd4n5 => exact .inr ⟨rfl, rfl⟩
  (try simp only [Act.put, pA, pZ, pS])
  refine tG (i := 6) (o := ?od4n6) (v := undef) growsB ?id4n6 (by kernel_rfl) ?qd4n6 ?yd4n6 ?rd4n6
  case id4n6 => (simp only [gA, gS, gZ]; rfl)
  case qd4n6 => exact fun _ _ _ h => h
  case yd4n6 => exact .inr ⟨rfl, rfl⟩
  (try simp only [Act.put, pA, pZ, pS])
  refine tG (i := 7) (o := ?od4n7) (v := undef) growsB ?id4n7 (by kernel_rfl) ?qd4n7 ?yd4n7 ?rd4n7
  case id4n7 => (simp only [gA, gS, gZ]; rfl)
  case qd4n7 => exact fun _ _ _ h => h
  case yd4n7 => exact .inr ⟨rfl, rfl⟩
  (try simp only [Act.put, pA, pZ, pS])
  refine tG (i := 8) (o := ?od4n8) (v := undef) growsB ?id4n8 (by kernel_rfl) ?qd4n8 ?yd4n8 ?rd4n8
  case id4n8 => (simp only [gA, gS, gZ]; rfl)
  case qd4n8 => exact fun _ _ _ h => h
  case yd4n8 => exact .inr ⟨rfl, rfl⟩
  (try simp only [Act.put, pA, pZ, pS])
  refine tG (i := 9) (o := ?od4n9) (v := undef) growsB ?id4n9 (by kernel_rfl) ?qd4n9 ?yd4n9 ?rd4n9
  case id4n9 => (simp only [gA, gS, gZ]; rfl)
  case qd4n9 => exact fun _ _ _ h => h
  case yd4n9 => exact .inr ⟨rfl, rfl⟩
  (try simp only [Act.put, pA, pZ, pS])
  refine tG (i := 10) (o := ?od4n10) (v := undef) growsB ?id4n10 (by kernel_rfl) ?qd4n10 ?yd4n10 ?rd4n10
  case id4n10 => (simp only [gA, gS, gZ]; rfl)
  case qd4n10 => exact fun _ _ _ h => h
  case yd4n10 => exact .inr ⟨rfl, rfl⟩
  (try simp only [Act.put, pA, pZ, pS])
  refine tG (i := 11) (o := ?od4n11) (v := undef) growsB ?id4n11 (by kernel_rfl) ?qd4n11 ?yd4n11 ?rd4n11
  case id4n11 => (simp only [gA, gS, gZ]; rfl)
  case qd4n11 => exact fun _ _ _ h => h
  case yd4n11 => exact .inr ⟨rfl, rfl⟩
  (try simp only [Act.put, pA, pZ, pS])
  refine tG (i := 12) (o := ?od4n12) (v := undef) growsB ?id4n12 (by kernel_rfl) ?qd4n12 ?yd4n12 ?rd4n12
  case id4n12 => (simp only [gA, gS, gZ]; rfl)
  case qd4n12 => exact fun _ _ _ h => h
  case yd4n12 => exact .inr ⟨rfl, rfl⟩
  (try simp only [Act.put, pA, pZ, pS])
  refine tG (i := 13) (o := ?od4n13) (v := undef) growsB ?id4n13 (by kernel_rfl) ?qd4n13 ?yd4n13 ?rd4n13
  case id4n13 => (simp only [gA, gS, gZ]; rfl)
  case qd4n13 => exact fun _ _ _ h => h
  case yd4n13 => exact .inr ⟨rfl, rfl⟩
  (try simp only [Act.put, pA, pZ, pS])
  refine tG (i := 14) (o := ?od4n14) (v := ?vd4n14) growsB ?id4n14 (by kernel_rfl) ?qd4n14 ?yd4n14 ?rd4n14
  case id4n14 => (simp only [gA, gS, gZ]; rfl)
  case qd4n14 => exact fun _ _ _ h => h
  case yd4n14 => exact .inl ⟨by rfl, by (intro w _; go_simp; try with_reducible rfl)⟩
  (try simp only [Act.put, pA, pZ, pS])
  refine wpAnyG_done (by kernel_rfl) ?_ _
  (try clear hX)
  intro w9 hX hT
  clear HF
  have oc := hX
  clear hX hT
  generalize w9 = V11 at *
  have ocY := oc
  have hxa' := hxa.below lxa ocY.2
  have lxa' := Nat.lt_of_lt_of_le lxa ocY.2.size
  have hxb' := hxb.below lxb ocY.2
  have lxb' := Nat.lt_of_lt_of_le lxb ocY.2.size
  have hxp' := hxp.below lxp ocY.2
  have lxp' := Nat.lt_of_lt_of_le lxp ocY.2.size
  have hxq' := hxq.below lxq ocY.2
  have lxq' := Nat.lt_of_lt_of_le lxq ocY.2.size
  (try clear xa0 xa1 xa2 xa3 xb0 xb1 xb2 xb3 xp0 xp1 xp2 xp3 xq0 xq1 xq2 xq3)
  have oo' := oo.step ocY.2
  clear ocY oo oc hxa lxa hxb lxb hxp lxp hxq lxq
  have hxa := hxa'
  have lxa := lxa'
  clear hxa' lxa'
  have hxb := hxb'
  have lxb := lxb'
  clear hxb' lxb'
  have hxp := hxp'
  have lxp := lxp'
  clear hxp' lxp'
  have hxq := hxq'
  have lxq := lxq'
  clear hxq' lxq'
  have oo := oo'
  clear oo'
  have oc := Ok.refl oo.1
  obtain ⟨xa0, xa1, xa2, xa3⟩ := (id hxa).quad
  obtain ⟨xb0, xb1, xb2, xb3⟩ := (id hxb).quad
  obtain ⟨xp0, xp1, xp2, xp3⟩ := (id hxp).quad
  obtain ⟨xq0, xq1, xq2, xq3⟩ := (id hxq).quad
  (try clear xp0 xp1 xp2 xp3)
  (try clear hxp lxp)
  (try clear exp)
  go_upto_region 17 with fail
  (try clear xa0 xa1 xa2 xa3 xb0 xb1 xb2 xb3 xq0 xq1 xq2 xq3)
  have HF := Lib.hid (fun X (h : Ok V11 X) => And.intro (hxa.below lxa h.2).quad (And.intro (hxb.below lxb h.2).quad (And.intro (hxq.below lxq h.2).quad (trivial))))
  refine wp_region_G (S := (Ok V11)) (by kernel_rfl) growsB (oc.step (by go_grown)) ?_
  refine tG (i := 0) (o := ?od5n0) (v := ?vd5n0) growsB ?id5n0 (by kernel_rfl) ?qd5n0 ?yd5n0 ?rd5n0
  case id5n0 => (simp only [gA, gZ]; rfl)
  case qd5n0 => exact fun _ _ _ h => h
  case yd5n0 => exact .inl ⟨by rfl, by (intro w _; go_simp; try with_reducible rfl)⟩
  (try simp only [Act.put, pA, pZ, pS])
  refine tG (i := 1) (o := ?od5n1) (v := ?vd5n1) growsB ?id5n1 (by kernel_rfl) ?qd5n1 ?yd5n1 ?rd5n1
  case id5n1 => (simp only [gA, gS, gZ]; rfl)
  case qd5n1 => exact fun _ _ _ h => h
  case yd5n1 => exact .inl ⟨by rfl, by (intro w _; go_simp; try with_reducible rfl)⟩
  (try simp only [Act.put, pA, pZ, pS])
  refine tG (i := 2) (o := ?od5n2) (v := ?vd5n2) growsB ?id5n2 (by kernel_rfl) ?qd5n2 ?yd5n2 ?rd5n2
  case id5n2 => (simp only [gA, gS, gZ]; rfl)
  case qd5n2 => exact fun _ _ _ h => h
  case yd5n2 => exact .inl ⟨by rfl, by (intro w _; go_simp; try with_reducible rfl)⟩
  (try simp only [Act.put, pA, pZ, pS])
  refine tG (i := 3) (o := ?od5n3) (v := undef) growsB ?id5n3 (by kernel_rfl) ?qd5n3 ?yd5n3 ?rd5n3
  case id5n3 => (simp only [gA, gS, gZ]; rfl)
  case qd5n3 => exact fun _ _ _ h => h
  case yd5n3 => exact .inr ⟨rfl, rfl⟩
  (try simp only [Act.put, pA, pZ, pS])
  refine tG (i := 4) (o := ?od5n4) (v := undef) growsB ?id5n4 (by kernel_rfl) ?qd5n4 ?yd5n4 ?rd5n4
  case id5n4 => (simp only [gA, gS, gZ]; rfl)
  case qd5n4 => exact fun _ _ _ h => h
  case yd5n4 => exact .inr ⟨rfl, rfl⟩
  (try simp only [Act.put, pA, pZ, pS])
  refine tG (i := 5) (o := ?od5n5) (v := undef) growsB ?id5n5 (by kernel_rfl) ?qd5n5 ?yd5n5 ?rd5n5
  case id5n5 => (simp only [gA, gS, gZ]; rfl)
  case qd5n5 => exact fun _ _ _ h => h
  case yd5n5 => exact .inr ⟨rfl, rfl⟩
  (try simp only [Act.put, pA, pZ, pS])
  refine tG (i := 6) (o := ?od5n6) (v := undef) growsB ?id5n6 (by kernel_rfl) ?qd5n6 ?yd5n6 ?rd5n6
  case id5n6 => (simp only [gA, gS, gZ]; rfl)
  case qd5n6 => exact fun _ _ _ h => h
  case yd5n6 => exact .inr ⟨rfl, rfl⟩
  (try simp only [Act.put, pA, pZ, pS])
  refine tG (i := 7) (o := ?od5n7) (v := undef) growsB ?id5n7 (by kernel_rfl) ?qd5n7 ?yd5n7 ?rd5n7
  case id5n7 => (simp only [gA, gS, gZ]; rfl)
  case qd5n7 => exact fun _ _ _ h => h
  case yd5n7 => exact .inr ⟨rfl, rfl⟩
  (try simp only [Act.put, pA, pZ, pS])
  refine tG (i := 8) (o := ?od5n8) (v := undef) growsB ?id5n8 (by kernel_rfl) ?qd5n8 ?yd5n8 ?rd5n8
  case id5n8 => (simp only [gA, gS, gZ]; rfl)
  case qd5n8 => exact fun _ _ _ h => h
  case yd5n8 => exact .inr ⟨rfl, rfl⟩
  (try simp only [Act.put, pA, pZ, pS])
  refine tG (i := 9) (o := ?od5n9) (v := undef) growsB ?id5n9 (by kernel_rfl) ?qd5n9 ?yd5n9 ?rd5n9
  case id5n9 => (simp only [gA, gS, gZ]; rfl)
  case qd5n9 => exact fun _ _ _ h => h
  case yd5n9 => exact .inr ⟨rfl, rfl⟩
  (try simp only [Act.put, pA, pZ, pS])
  refine tG (i := 10) (o := ?od5n10) (v := undef) growsB ?id5n10 (by kernel_rfl) ?qd5n10 ?yd5n10 ?rd5n10
  case id5n10 => (simp only [gA, gS, gZ]; rfl)
  case qd5n10 => exact fun _ _ _ h => h
  case yd5n10 => exact .inr ⟨rfl, rfl⟩
  (try simp only [Act.put, pA, pZ, pS])
  refine tG (i := 11) (o := ?od5n11) (v := undef) growsB ?id5n11 (by kernel_rfl) ?qd5n11 ?yd5n11 ?rd5n11
  case id5n11 => (simp only [gA, gS, gZ]; rfl)
  case qd5n11 => exact fun _ _ _ h => h
  case yd5n11 => exact .inr ⟨rfl, rfl⟩
  (try simp only [Act.put, pA, pZ, pS])
  refine tG (i := 12) (o := ?od5n12) (v := undef) growsB ?id5n12 (by kernel_rfl) ?qd5n12 ?yd5n12 ?rd5n12
  case id5n12 => (simp only [gA, gS, gZ]; rfl)
  case qd5n12 => exact fun _ _ _ h => h
  case yd5n12 => exact .inr ⟨rfl, rfl⟩
  (try simp only [Act.put, pA, pZ, pS])
  refine tG (i := 13) (o := ?od5n13) (v := undef) growsB ?id5n13 (by kernel_rfl) ?qd5n13 ?yd5n13 ?rd5n13
  case id5n13 => (simp only [gA, gS, gZ]; rfl)
  case qd5n13 => exact fun _ _ _ h => h
  case yd5n13 => exact .inr ⟨rfl, rfl⟩
  (try simp only [Act.put, pA, pZ, pS])
  refine tG (i := 14) (o := ?od5n14) (v := undef) growsB ?id5n14 (by kernel_rfl) ?qd5n14 ?yd5n14 ?rd5n14
  case id5n14 => (simp only [gA, gS, gZ]; rfl)
  case qd5n14 => exact fun _ _ _ h => h
  case yd5n14 => exact .inr ⟨rfl, rfl⟩
  (try simp only [Act.put, pA, pZ, pS])
  refine tG (i := 15) (o := ?od5n15) (v := undef) growsB ?id5n15 (by kernel_rfl) ?qd5n15 ?yd5n15 ?rd5n15
  case id5n15 => (simp only [gA, gS, gZ]; rfl)
  case qd5n15 => exact fun _ _ _ h => h
  case yd5n15 => exact .inr ⟨rfl, rfl⟩
  (try simp only [Act.put, pA, pZ, pS])
  refine tG (i := 16) (o := ?od5n16) (v := undef) growsB ?id5n16 (by kernel_rfl) ?qd5n16 ?yd5n16 ?rd5n16
  case id5n16 => (simp only [gA, gS, gZ]; rfl)
  case qd5n16 => exact fun _ _ _ h => h
  case yd5n16 => exact .inr ⟨rfl, rfl⟩
  (try simp only [Act.put, pA, pZ, pS])
  refine tG (i := 17) (o := ?od5n17) (v := undef) growsB ?id5n17 (by kernel_rfl) ?qd5n17 ?yd5n17 ?rd5n17
  case id5n17 => (simp only [gA, gS, gZ]; rfl)
  case qd5n17 => exact fun _ _ _ h => h
  case yd5n17 => exact .inr ⟨rfl, rfl⟩
  (try simp only [Act.put, pA, pZ, pS])
  refine tG (i := 18) (o := ?od5n18) (v := ?vd5n18) growsB ?id5n18 (by kernel_rfl) ?qd5n18 ?yd5n18 ?rd5n18
  case id5n18 => (simp only [gA, gS, gZ]; rfl)
  case qd5n18 => exact fun _ _ _ h => h
  case yd5n18 => exact .inl ⟨by rfl, by (intro w _; go_simp; try with_reducible rfl)⟩
  (try simp only [Act.put, pA, pZ, pS])
  refine tG (i := 19) (o := ?od5n19) (v := ?vd5n19) growsB ?id5n19 (by kernel_rfl) ?qd5n19 ?yd5n19 ?rd5n19
  case id5n19 => (simp only [gA, gS, gZ]; rfl)
  case qd5n19 => exact fun _ _ _ h => h
  case yd5n19 => exact .inl ⟨by rfl, by (intro w _; go_simp; try with_reducible rfl)⟩
  (try simp only [Act.put, pA, pZ, pS])
  refine cG (i := 20) (o := ?od5n20) growsB ?id5n20 (by kernel_rfl) ?qd5n20 ?wd5n20 ?ed5n20 (fun X hX => callO KL.out hX) ?rd5n20
  case id5n20 => (simp only [gA, gS, gZ]; rfl)
  case qd5n20 => exact fun _ _ _ h => h
  case wd5n20 => rfl
  case ed5n20 => (intro w; go_simp; try with_reducible rfl)
  (try simp only [Act.put, pA, pZ, pS])
  refine tG (i := 21) (o := ?od5n21) (v := ?vd5n21) growsB ?id5n21 (by kernel_rfl) ?qd5n21 ?yd5n21 ?rd5n21
  case id5n21 => (simp only [gA, gS, gZ]; rfl)
  case qd5n21 => exact fun _ _ _ h => h
  case yd5n21 => exact .inl ⟨by rfl, by (intro w _; go_simp; try with_reducible rfl)⟩
  (try simp only [Act.put, pA, pZ, pS])
  refine tG (i := 22) (o := ?od5n22) (v := ?vd5n22) growsB ?id5n22 (by kernel_rfl) ?qd5n22 ?yd5n22 ?rd5n22
  case id5n22 => (simp only [gA, gS, gZ]; rfl)
  case qd5n22 => exact fun _ _ _ h => h
  case yd5n22 => exact .inl ⟨by rfl, by (intro w _; go_simp; try with_reducible rfl)⟩
  (try simp only [Act.put, pA, pZ, pS])
  refine wpAnyG_done (by kernel_rfl) ?_ _
  (try clear hX)
  intro w9 hX hT
  clear HF
  have oc := hX
  clear hX hT
  generalize w9 = V12 at *
  have ocY := oc
  have hxa' := hxa.below lxa ocY.2
  have lxa' := Nat.lt_of_lt_of_le lxa ocY.2.size
  have hxb' := hxb.below lxb ocY.2
  have lxb' := Nat.lt_of_lt_of_le lxb ocY.2.size
  have hxq' := hxq.below lxq ocY.2
  have lxq' := Nat.lt_of_lt_of_le lxq ocY.2.size
  (try clear xa0 xa1 xa2 xa3 xb0 xb1 xb2 xb3 xq0 xq1 xq2 xq3)
  have oo' := oo.step ocY.2
  clear ocY oo oc hxa lxa hxb lxb hxq lxq
  have hxa := hxa'
  have lxa := lxa'
  clear hxa' lxa'
  have hxb := hxb'
  have lxb := lxb'
  clear hxb' lxb'
  have hxq := hxq'
  have lxq := lxq'
  clear hxq' lxq'
  have oo := oo'
  clear oo'
  have oc := Ok.refl oo.1
  obtain ⟨xa0, xa1, xa2, xa3⟩ := (id hxa).quad
  obtain ⟨xb0, xb1, xb2, xb3⟩ := (id hxb).quad
  obtain ⟨xq0, xq1, xq2, xq3⟩ := (id hxq).quad
  go_wp2_with fail
  go_ret
  exact ⟨rfl, oo.step oc.2⟩
end Go.Proofs.YtmbaohjekeiphaaGreatDoor.run9
