/- The law on two runs: the walk for two that are right. -/
import Derived.Test.YtmbaohjekeiphaaGreatDoorLawK
namespace Go.Proofs.YtmbaohjekeiphaaGreatDoor.run9
open Go.RowKit

set_option maxRecDepth 100000 in
set_option maxHeartbeats 8000000 in
theorem pairs_ok (i d j e k u l v n c p0 p1 p2 p3 q0 q1 q2 q3 r0 r1 r2 r3 s0 s1 s2 s3 : Int) (t m h1 h2 z : Bool) (w W : World) (KL : Hid (∀ B X, Ok B X → Calls Tryz.prog 23 #[] X fun x w' => x = .returned (.bool true) ∧ Ok B w')) (KCa : Hid (∀ B X, Ok B X → Calls Tryz.prog 7 #[U4 i d j e] X fun x w' => x = .returned (.int .i64 0) ∧ Ok B w')) (KCb : Hid (∀ B X, Ok B X → Calls Tryz.prog 7 #[U4 k u l v] X fun x w' => x = .returned (.int .i64 0) ∧ Ok B w')) (KNa : Hid (∀ B X, Ok B X → Calls Tryz.prog 8 #[U4 i d j e] X fun x w' => x = .returned (.int .i64 0) ∧ Ok B w')) (KNb : Hid (∀ B X, Ok B X → Calls Tryz.prog 8 #[U4 k u l v] X fun x w' => x = .returned (.int .i64 0) ∧ Ok B w'))
    (KM1 : Hid (∀ B X, Ok B X → Calls Tryz.prog 9 #[U4 i d j e, U4 k u l v] X fun x w' => x = .returned (.int .i64 c) ∧ Ok B w')) (KM2 : Hid (∀ B X, Ok B X → Calls Tryz.prog 10 #[U4 i d j e, U4 k u l v] X fun x w' => x = .returned (.int .i64 c) ∧ Ok B w')) (KM3 : Hid (∀ B X, Ok B X → Calls Tryz.prog 9 #[U4 k u l v, U4 i d j e] X fun x w' => x = .returned (.int .i64 (-c)) ∧ Ok B w'))
    (KT : Hid (∀ B X, Ok B X → Calls Tryz.prog 11 #[U4 i d j e, U4 k u l v] X fun x w' => x = .returned (.bool t) ∧ Ok B w')) (KO : Hid (∀ B X, Ok B X → Calls Tryz.prog 12 #[U4 i d j e, U4 k u l v] X fun x w' => x = .returned (.bool m) ∧ Ok B w')) (KJ1 : Hid (∀ B X, Ok B X → Calls Tryz.prog 13 #[U4 i d j e, U4 k u l v] X fun x w' => x = .returned (.tuple #[U4 p0 p1 p2 p3, .bool t]) ∧ Ok B w')) (KJ2 : Hid (∀ B X, Ok B X → Calls Tryz.prog 13 #[U4 k u l v, U4 i d j e] X fun x w' => x = .returned (.tuple #[U4 p0 p1 p2 p3, .bool t]) ∧ Ok B w')) (KK1 : Hid (∀ B X, Ok B X → Calls Tryz.prog 14 #[U4 i d j e, U4 k u l v] X fun x w' => x = .returned (.tuple #[U4 q0 q1 q2 q3, .bool m]) ∧ Ok B w')) (KK2 : Hid (∀ B X, Ok B X → Calls Tryz.prog 14 #[U4 k u l v, U4 i d j e] X fun x w' => x = .returned (.tuple #[U4 q0 q1 q2 q3, .bool m]) ∧ Ok B w'))
    (KT1 : Hid (∀ B X, Ok B X → Calls Tryz.prog 15 #[U4 i d j e, U4 k u l v] X fun x w' => x = .returned (.bool t) ∧ Ok B w')) (KT2 : Hid (∀ B X, Ok B X → Calls Tryz.prog 15 #[U4 k u l v, U4 i d j e] X fun x w' => x = .returned (.bool t) ∧ Ok B w')) (KRJ : Hid (∀ B X, Ok B X → Calls Tryz.prog 17 #[U4 i d j e, U4 k u l v] X fun x w' => x = .returned (U4 r0 r1 r2 r3) ∧ Ok B w')) (KRK : Hid (∀ B X, Ok B X → Calls Tryz.prog 18 #[U4 i d j e, U4 k u l v] X fun x w' => x = .returned (U4 s0 s1 s2 s3) ∧ Ok B w')) (KF1 : Hid (∀ B X, Ok B X → Calls Tryz.prog 16 #[U4 p0 p1 p2 p3, .bool t, U4 r0 r1 r2 r3, .bool t] X fun x w' => x = .returned (.bool true) ∧ Ok B w')) (KF2 : Hid (∀ B X, Ok B X → Calls Tryz.prog 16 #[U4 q0 q1 q2 q3, .bool m, U4 s0 s1 s2 s3, .bool m] X fun x w' => x = .returned (.bool true) ∧ Ok B w'))
    (KW : Hid (∀ B X, Ok B X → Calls Tryz.prog 19 #[U4 i d j e, U4 k u l v] X fun x w' => x = .returned (.bool z) ∧ Ok B w')) (KRW : Hid (∀ B X, Ok B X → Calls Tryz.prog 20 #[U4 i d j e, U4 k u l v] X fun x w' => x = .returned (.bool z) ∧ Ok B w')) (KHa : Hid (∀ B X, Ok B X → Calls Tryz.prog 21 #[U4 i d j e, .int .i64 n] X fun x w' => x = .returned (.bool h1) ∧ Ok B w')) (KRH : Hid (∀ B X, Ok B X → Calls Tryz.prog 22 #[U4 i d j e, .int .i64 n] X fun x w' => x = .returned (.bool h1) ∧ Ok B w')) (KHb : Hid (∀ B X, Ok B X → Calls Tryz.prog 21 #[U4 k u l v, .int .i64 n] X fun x w' => x = .returned (.bool h2) ∧ Ok B w')) (KHp : t = true → Hid (∀ B X, Ok B X → Calls Tryz.prog 21 #[U4 p0 p1 p2 p3, .int .i64 n] X fun x w' => x = .returned (.bool (h1 || h2)) ∧ Ok B w')) (KHq : m = true → Hid (∀ B X, Ok B X → Calls Tryz.prog 21 #[U4 q0 q1 q2 q3, .int .i64 n] X fun x w' => x = .returned (.bool (h1 && h2)) ∧ Ok B w'))
    (htm : t = false → m = false) (hmh : m = false → h1 = true → h2 = false) (hcw : IntKind.i64.wrap (-c) = -c) (ho : Ok w W) :
    Calls Tryz.prog 3 #[U4 i d j e, U4 k u l v, .int .i64 n] W fun e w' => e = .returned (.bool true) ∧ Ok w w' := by
  have hc1 : (c != c) = false := by simp
  have hc2 : (-c != -c) = false := by simp
  have hz1 : (z != z) = false := by cases z <;> rfl
  have ht1 : (t != t) = false := by cases t <;> rfl
  have hm1 : (m != m) = false := by cases m <;> rfl
  have hh0 : (h1 != h1) = false := by cases h1 <;> rfl
  have hh1 : (h2 != h2) = false := by cases h2 <;> rfl
  have hh2 : (h2 == h2) = true := by cases h2 <;> rfl
  have ep : ∀ w, (binOp .neq 26 (U4 p0 p1 p2 p3) (U4 p0 p1 p2 p3)).run Tryz.prog w = .ok (.bool false) w := fun w => by have h := ne_any ⟨p0, p1, p2, p3⟩ ⟨p0, p1, p2, p3⟩ w; rw [ruEq_self] at h; exact h
  have eq : ∀ w, (binOp .neq 26 (U4 q0 q1 q2 q3) (U4 q0 q1 q2 q3)).run Tryz.prog w = .ok (.bool false) w := fun w => by have h := ne_any ⟨q0, q1, q2, q3⟩ ⟨q0, q1, q2, q3⟩ w; rw [ruEq_self] at h; exact h
  go_enter Tryz.func3, Tryz.ntmps3
  have oo := ho
  clear ho
  have oc := Ok.refl oo.1
  go_upto_region 1 with fail
  obtain ⟨hxa, zxa, txa⟩ := run_new W i d j e _ rfl
  generalize (W.alloc (Obj.cells #[Value.int IntKind.i8 i, Value.int IntKind.i64 d, Value.int IntKind.i8 j, Value.int IntKind.i64 e] 26)) = V1 at *
  have exa : w.heap.size ≤ W.heap.size := (oo.step oc.2).2.size
  have lxa : W.heap.size < V1.heap.size := by omega
  have ocY := oc.step txa
  have oo' := oo.step ocY.2
  clear ocY oo oc
  have oo := oo'
  clear oo'
  have oc := Ok.refl oo.1
  have zz1 : V1.heap.size = W.heap.size + 1 := zxa
  clear txa zxa
  obtain ⟨hxb, zxb, txb⟩ := run_new V1 k u l v _ rfl
  generalize (V1.alloc (Obj.cells #[Value.int IntKind.i8 k, Value.int IntKind.i64 u, Value.int IntKind.i8 l, Value.int IntKind.i64 v] 26)) = V2 at *
  have exb : w.heap.size ≤ V1.heap.size := (oo.step oc.2).2.size
  have lxb : V1.heap.size < V2.heap.size := by omega
  have ocY := oc.step txb
  have hxa' := hxa.below lxa ocY.2
  have lxa' := Nat.lt_of_lt_of_le lxa ocY.2.size
  (try clear xa0 xa1 xa2 xa3)
  have oo' := oo.step ocY.2
  clear ocY oo oc hxa lxa
  have hxa := hxa'
  have lxa := lxa'
  clear hxa' lxa'
  have oo := oo'
  clear oo'
  have oc := Ok.refl oo.1
  rw [zz1] at hxb lxb exb zxb
  have zz2 : V2.heap.size = W.heap.size + 1 + 1 := zxb
  clear zz1
  clear txb zxb
  (try clear zz2)
  generalize W.heap.size + 1 = gxb at *
  generalize W.heap.size = gxa at *
  (try clear xa0 xa1 xa2 xa3 xb0 xb1 xb2 xb3)
  have HF := Lib.hid (fun X (h : Ok V2 X) => And.intro (hxa.below lxa h.2).quad (And.intro (hxb.below lxb h.2).quad (trivial)))
  refine wp_region_G (S := (Ok V2)) (by kernel_rfl) growsB (oc.step (by go_grown)) ?_
  refine tG (i := 0) (o := ?od1n0) (v := ?vd1n0) growsB ?id1n0 (by kernel_rfl) ?qd1n0 ?yd1n0 ?rd1n0
  case id1n0 => (simp only [gA, gZ]; rfl)
  case qd1n0 => exact fun _ _ _ h => h
  case yd1n0 => exact .inl ⟨by rfl, by (intro w hSw; obtain ⟨⟨xa0, xa1, xa2, xa3⟩, ⟨xb0, xb1, xb2, xb3⟩, -⟩ := HF.out w hSw; go_simp; try with_reducible rfl)⟩
  (try simp only [Act.put, pA, pZ, pS])
  refine cG (i := 1) (o := ?od1n1) growsB ?id1n1 (by kernel_rfl) ?qd1n1 ?wd1n1 ?ed1n1 (fun X hX => callO KCa.out hX) ?rd1n1
  case id1n1 => (simp only [gA, gS, gZ]; rfl)
  case qd1n1 => exact fun _ _ _ h => h
  case wd1n1 => rfl
  case ed1n1 => (intro w; go_simp; try with_reducible rfl)
  (try simp only [Act.put, pA, pZ, pS])
  refine tG (i := 2) (o := ?od1n2) (v := ?vd1n2) growsB ?id1n2 (by kernel_rfl) ?qd1n2 ?yd1n2 ?rd1n2
  case id1n2 => (simp only [gA, gS, gZ]; rfl)
  case qd1n2 => exact fun _ _ _ h => h
  case yd1n2 => exact .inl ⟨by rfl, by (intro w hSw; obtain ⟨⟨xa0, xa1, xa2, xa3⟩, ⟨xb0, xb1, xb2, xb3⟩, -⟩ := HF.out w hSw; go_simp; try with_reducible rfl)⟩
  (try simp only [Act.put, pA, pZ, pS])
  refine cG (i := 3) (o := ?od1n3) growsB ?id1n3 (by kernel_rfl) ?qd1n3 ?wd1n3 ?ed1n3 (fun X hX => callO KCb.out hX) ?rd1n3
  case id1n3 => (simp only [gA, gS, gZ]; rfl)
  case qd1n3 => exact fun _ _ _ h => h
  case wd1n3 => rfl
  case ed1n3 => (intro w; go_simp; try with_reducible rfl)
  (try simp only [Act.put, pA, pZ, pS])
  refine tG (i := 4) (o := ?od1n4) (v := ?vd1n4) growsB ?id1n4 (by kernel_rfl) ?qd1n4 ?yd1n4 ?rd1n4
  case id1n4 => (simp only [gA, gS, gZ]; rfl)
  case qd1n4 => exact fun _ _ _ h => h
  case yd1n4 => exact .inl ⟨by rfl, by (intro w _; go_simp; try with_reducible rfl)⟩
  (try simp only [Act.put, pA, pZ, pS])
  refine tG (i := 5) (o := ?od1n5) (v := ?vd1n5) growsB ?id1n5 (by kernel_rfl) ?qd1n5 ?yd1n5 ?rd1n5
  case id1n5 => (simp only [gA, gS, gZ]; rfl)
  case qd1n5 => exact fun _ _ _ h => h
  case yd1n5 => exact .inl ⟨by rfl, by (intro w _; go_simp; try with_reducible rfl)⟩
  (try simp only [Act.put, pA, pZ, pS])
  refine wpAnyG_done (by kernel_rfl) ?_ _
  (try clear hX)
  intro w9 hX hT
  clear HF
  have oc := hX
  clear hX hT
  generalize w9 = V3 at *
  have ocY := oc
  have hxa' := hxa.below lxa ocY.2
  have lxa' := Nat.lt_of_lt_of_le lxa ocY.2.size
  have hxb' := hxb.below lxb ocY.2
  have lxb' := Nat.lt_of_lt_of_le lxb ocY.2.size
  (try clear xa0 xa1 xa2 xa3 xb0 xb1 xb2 xb3)
  have oo' := oo.step ocY.2
  clear ocY oo oc hxa lxa hxb lxb
  have hxa := hxa'
  have lxa := lxa'
  clear hxa' lxa'
  have hxb := hxb'
  have lxb := lxb'
  clear hxb' lxb'
  have oo := oo'
  clear oo'
  have oc := Ok.refl oo.1
  obtain ⟨xa0, xa1, xa2, xa3⟩ := (id hxa).quad
  obtain ⟨xb0, xb1, xb2, xb3⟩ := (id hxb).quad
  clear KCa KCb
  go_upto_region 2 with fail
  (try clear xa0 xa1 xa2 xa3 xb0 xb1 xb2 xb3)
  have HF := Lib.hid (fun X (h : Ok V3 X) => And.intro (hxa.below lxa h.2).quad (And.intro (hxb.below lxb h.2).quad (trivial)))
  refine wp_region_G (S := (Ok V3)) (by kernel_rfl) growsB (oc.step (by go_grown)) ?_
  refine tG (i := 0) (o := ?od2n0) (v := ?vd2n0) growsB ?id2n0 (by kernel_rfl) ?qd2n0 ?yd2n0 ?rd2n0
  case id2n0 => (simp only [gA, gZ]; rfl)
  case qd2n0 => exact fun _ _ _ h => h
  case yd2n0 => exact .inl ⟨by rfl, by (intro w hSw; obtain ⟨⟨xa0, xa1, xa2, xa3⟩, ⟨xb0, xb1, xb2, xb3⟩, -⟩ := HF.out w hSw; go_simp; try with_reducible rfl)⟩
  (try simp only [Act.put, pA, pZ, pS])
  refine cG (i := 1) (o := ?od2n1) growsB ?id2n1 (by kernel_rfl) ?qd2n1 ?wd2n1 ?ed2n1 (fun X hX => callO KNa.out hX) ?rd2n1
  case id2n1 => (simp only [gA, gS, gZ]; rfl)
  case qd2n1 => exact fun _ _ _ h => h
  case wd2n1 => rfl
  case ed2n1 => (intro w; go_simp; try with_reducible rfl)
  (try simp only [Act.put, pA, pZ, pS])
  refine tG (i := 2) (o := ?od2n2) (v := ?vd2n2) growsB ?id2n2 (by kernel_rfl) ?qd2n2 ?yd2n2 ?rd2n2
  case id2n2 => (simp only [gA, gS, gZ]; rfl)
  case qd2n2 => exact fun _ _ _ h => h
  case yd2n2 => exact .inl ⟨by rfl, by (intro w _; go_simp; try with_reducible rfl)⟩
  (try simp only [Act.put, pA, pZ, pS])
  refine tG (i := 3) (o := ?od2n3) (v := ?vd2n3) growsB ?id2n3 (by kernel_rfl) ?qd2n3 ?yd2n3 ?rd2n3
  case id2n3 => (simp only [gA, gS, gZ]; rfl)
  case qd2n3 => exact fun _ _ _ h => h
  case yd2n3 => exact .inl ⟨by rfl, by (intro w _; go_simp; try with_reducible rfl)⟩
  (try simp only [Act.put, pA, pZ, pS])
  refine tG (i := 4) (o := ?od2n4) (v := ?vd2n4) growsB ?id2n4 (by kernel_rfl) ?qd2n4 ?yd2n4 ?rd2n4
  case id2n4 => (simp only [gA, gS, gZ]; rfl)
  case qd2n4 => exact fun _ _ _ h => h
  case yd2n4 => exact .inl ⟨by rfl, by (intro w _; go_simp; try with_reducible rfl)⟩
  (try simp only [Act.put, pA, pZ, pS])
  refine tG (i := 5) (o := ?od2n5) (v := ?vd2n5) growsB ?id2n5 (by kernel_rfl) ?qd2n5 ?yd2n5 ?rd2n5
  case id2n5 => (simp only [gA, gS, gZ]; rfl)
  case qd2n5 => exact fun _ _ _ h => h
  case yd2n5 => exact .inl ⟨by rfl, by (intro w hSw; obtain ⟨⟨xa0, xa1, xa2, xa3⟩, ⟨xb0, xb1, xb2, xb3⟩, -⟩ := HF.out w hSw; go_simp; try with_reducible rfl)⟩
  (try simp only [Act.put, pA, pZ, pS])
  refine cG (i := 6) (o := ?od2n6) growsB ?id2n6 (by kernel_rfl) ?qd2n6 ?wd2n6 ?ed2n6 (fun X hX => callO KNb.out hX) ?rd2n6
  case id2n6 => (simp only [gA, gS, gZ]; rfl)
  case qd2n6 => exact fun _ _ _ h => h
  case wd2n6 => rfl
  case ed2n6 => (intro w; go_simp; try with_reducible rfl)
  (try simp only [Act.put, pA, pZ, pS])
  refine tG (i := 7) (o := ?od2n7) (v := ?vd2n7) growsB ?id2n7 (by kernel_rfl) ?qd2n7 ?yd2n7 ?rd2n7
  case id2n7 => (simp only [gA, gS, gZ]; rfl)
  case qd2n7 => exact fun _ _ _ h => h
  case yd2n7 => exact .inl ⟨by rfl, by (intro w _; go_simp; try with_reducible rfl)⟩
  (try simp only [Act.put, pA, pZ, pS])
  refine tG (i := 8) (o := ?od2n8) (v := ?vd2n8) growsB ?id2n8 (by kernel_rfl) ?qd2n8 ?yd2n8 ?rd2n8
  case id2n8 => (simp only [gA, gS, gZ]; rfl)
  case qd2n8 => exact fun _ _ _ h => h
  case yd2n8 => exact .inl ⟨by rfl, by (intro w _; go_simp; try with_reducible rfl)⟩
  (try simp only [Act.put, pA, pZ, pS])
  refine tG (i := 9) (o := ?od2n9) (v := ?vd2n9) growsB ?id2n9 (by kernel_rfl) ?qd2n9 ?yd2n9 ?rd2n9
  case id2n9 => (simp only [gA, gS, gZ]; rfl)
  case qd2n9 => exact fun _ _ _ h => h
  case yd2n9 => exact .inl ⟨by rfl, by (intro w _; go_simp; try with_reducible rfl)⟩
  (try simp only [Act.put, pA, pZ, pS])
  refine tG (i := 10) (o := ?od2n10) (v := ?vd2n10) growsB ?id2n10 (by kernel_rfl) ?qd2n10 ?yd2n10 ?rd2n10
  case id2n10 => (simp only [gA, gS, gZ]; rfl)
  case qd2n10 => exact fun _ _ _ h => h
  case yd2n10 => exact .inl ⟨by rfl, by (intro w _; go_simp; try with_reducible rfl)⟩
  (try simp only [Act.put, pA, pZ, pS])
  refine tG (i := 11) (o := ?od2n11) (v := ?vd2n11) growsB ?id2n11 (by kernel_rfl) ?qd2n11 ?yd2n11 ?rd2n11
  case id2n11 => (simp only [gA, gS, gZ]; rfl)
  case qd2n11 => exact fun _ _ _ h => h
  case yd2n11 => exact .inl ⟨by rfl, by (intro w hSw; obtain ⟨⟨xa0, xa1, xa2, xa3⟩, ⟨xb0, xb1, xb2, xb3⟩, -⟩ := HF.out w hSw; go_simp; try with_reducible rfl)⟩
  (try simp only [Act.put, pA, pZ, pS])
  refine tG (i := 12) (o := ?od2n12) (v := ?vd2n12) growsB ?id2n12 (by kernel_rfl) ?qd2n12 ?yd2n12 ?rd2n12
  case id2n12 => (simp only [gA, gS, gZ]; rfl)
  case qd2n12 => exact fun _ _ _ h => h
  case yd2n12 => exact .inl ⟨by rfl, by (intro w hSw; obtain ⟨⟨xa0, xa1, xa2, xa3⟩, ⟨xb0, xb1, xb2, xb3⟩, -⟩ := HF.out w hSw; go_simp; try with_reducible rfl)⟩
  (try simp only [Act.put, pA, pZ, pS])
  refine cG (i := 13) (o := ?od2n13) growsB ?id2n13 (by kernel_rfl) ?qd2n13 ?wd2n13 ?ed2n13 (fun X hX => callO KM1.out hX) ?rd2n13
  case id2n13 => (simp only [gA, gS, gZ]; rfl)
  case qd2n13 => exact fun _ _ _ h => h
  case wd2n13 => rfl
  case ed2n13 => (intro w; go_simp; try with_reducible rfl)
  (try simp only [Act.put, pA, pZ, pS])
  refine tG (i := 14) (o := ?od2n14) (v := ?vd2n14) growsB ?id2n14 (by kernel_rfl) ?qd2n14 ?yd2n14 ?rd2n14
  case id2n14 => (simp only [gA, gS, gZ]; rfl)
  case qd2n14 => exact fun _ _ _ h => h
  case yd2n14 => exact .inl ⟨by rfl, by (intro w hSw; obtain ⟨⟨xa0, xa1, xa2, xa3⟩, ⟨xb0, xb1, xb2, xb3⟩, -⟩ := HF.out w hSw; go_simp; try with_reducible rfl)⟩
  (try simp only [Act.put, pA, pZ, pS])
  refine tG (i := 15) (o := ?od2n15) (v := ?vd2n15) growsB ?id2n15 (by kernel_rfl) ?qd2n15 ?yd2n15 ?rd2n15
  case id2n15 => (simp only [gA, gS, gZ]; rfl)
  case qd2n15 => exact fun _ _ _ h => h
  case yd2n15 => exact .inl ⟨by rfl, by (intro w hSw; obtain ⟨⟨xa0, xa1, xa2, xa3⟩, ⟨xb0, xb1, xb2, xb3⟩, -⟩ := HF.out w hSw; go_simp; try with_reducible rfl)⟩
  (try simp only [Act.put, pA, pZ, pS])
  refine cG (i := 16) (o := ?od2n16) growsB ?id2n16 (by kernel_rfl) ?qd2n16 ?wd2n16 ?ed2n16 (fun X hX => callO KM2.out hX) ?rd2n16
  case id2n16 => (simp only [gA, gS, gZ]; rfl)
  case qd2n16 => exact fun _ _ _ h => h
  case wd2n16 => rfl
  case ed2n16 => (intro w; go_simp; try with_reducible rfl)
  (try simp only [Act.put, pA, pZ, pS])
  refine tG (i := 17) (o := ?od2n17) (v := ?vd2n17) growsB ?id2n17 (by kernel_rfl) ?qd2n17 ?yd2n17 ?rd2n17
  case id2n17 => (simp only [gA, gS, gZ]; rfl)
  case qd2n17 => exact fun _ _ _ h => h
  case yd2n17 => exact .inl ⟨by rfl, by (intro w _; go_simp; try with_reducible rfl)⟩
  (try simp only [Act.put, pA, pZ, pS])
  refine tG (i := 18) (o := ?od2n18) (v := ?vd2n18) growsB ?id2n18 (by kernel_rfl) ?qd2n18 ?yd2n18 ?rd2n18
  case id2n18 => (simp only [gA, gS, gZ]; rfl)
  case qd2n18 => exact fun _ _ _ h => h
  case yd2n18 => exact .inl ⟨by rfl, by (intro w _; go_simp; try with_reducible rfl)⟩
  (try simp only [Act.put, pA, pZ, pS])
  refine tG (i := 19) (o := ?od2n19) (v := ?vd2n19) growsB ?id2n19 (by kernel_rfl) ?qd2n19 ?yd2n19 ?rd2n19
  case id2n19 => (simp only [gA, gS, gZ]; rfl)
  case qd2n19 => exact fun _ _ _ h => h
  case yd2n19 => exact .inl ⟨by rfl, by (intro w _; go_simp; try with_reducible rfl)⟩
  (try simp only [Act.put, pA, pZ, pS])
  refine tG (i := 20) (o := ?od2n20) (v := ?vd2n20) growsB ?id2n20 (by kernel_rfl) ?qd2n20 ?yd2n20 ?rd2n20
  case id2n20 => (simp only [gA, gS, gZ]; rfl)
  case qd2n20 => exact fun _ _ _ h => h
  case yd2n20 => exact .inl ⟨by rfl, by (intro w hSw; obtain ⟨⟨xa0, xa1, xa2, xa3⟩, ⟨xb0, xb1, xb2, xb3⟩, -⟩ := HF.out w hSw; go_simp; try with_reducible rfl)⟩
  (try simp only [Act.put, pA, pZ, pS])
  refine tG (i := 21) (o := ?od2n21) (v := ?vd2n21) growsB ?id2n21 (by kernel_rfl) ?qd2n21 ?yd2n21 ?rd2n21
  case id2n21 => (simp only [gA, gS, gZ]; rfl)
  case qd2n21 => exact fun _ _ _ h => h
  case yd2n21 => exact .inl ⟨by rfl, by (intro w hSw; obtain ⟨⟨xa0, xa1, xa2, xa3⟩, ⟨xb0, xb1, xb2, xb3⟩, -⟩ := HF.out w hSw; go_simp; try with_reducible rfl)⟩
  (try simp only [Act.put, pA, pZ, pS])
  refine cG (i := 22) (o := ?od2n22) growsB ?id2n22 (by kernel_rfl) ?qd2n22 ?wd2n22 ?ed2n22 (fun X hX => callO KM3.out hX) ?rd2n22
  case id2n22 => (simp only [gA, gS, gZ]; rfl)
  case qd2n22 => exact fun _ _ _ h => h
  case wd2n22 => rfl
  case ed2n22 => (intro w; go_simp; try with_reducible rfl)
  (try simp only [Act.put, pA, pZ, pS])
  refine tG (i := 23) (o := ?od2n23) (v := ?vd2n23) growsB ?id2n23 (by kernel_rfl) ?qd2n23 ?yd2n23 ?rd2n23
  case id2n23 => (simp only [gA, gS, gZ]; rfl)
  case qd2n23 => exact fun _ _ _ h => h
  case yd2n23 => exact .inl ⟨by rfl, by (intro w hSw; obtain ⟨⟨xa0, xa1, xa2, xa3⟩, ⟨xb0, xb1, xb2, xb3⟩, -⟩ := HF.out w hSw; go_simp; try with_reducible rfl)⟩
  (try simp only [Act.put, pA, pZ, pS])
  refine tG (i := 24) (o := ?od2n24) (v := ?vd2n24) growsB ?id2n24 (by kernel_rfl) ?qd2n24 ?yd2n24 ?rd2n24
  case id2n24 => (simp only [gA, gS, gZ]; rfl)
  case qd2n24 => exact fun _ _ _ h => h
  case yd2n24 => exact .inl ⟨by rfl, by (intro w hSw; obtain ⟨⟨xa0, xa1, xa2, xa3⟩, ⟨xb0, xb1, xb2, xb3⟩, -⟩ := HF.out w hSw; go_simp; try with_reducible rfl)⟩
  (try simp only [Act.put, pA, pZ, pS])
  refine cG (i := 25) (o := ?od2n25) growsB ?id2n25 (by kernel_rfl) ?qd2n25 ?wd2n25 ?ed2n25 (fun X hX => callO KM1.out hX) ?rd2n25
  case id2n25 => (simp only [gA, gS, gZ]; rfl)
  case qd2n25 => exact fun _ _ _ h => h
  case wd2n25 => rfl
  case ed2n25 => (intro w; go_simp; try with_reducible rfl)
  (try simp only [Act.put, pA, pZ, pS])
  refine tG (i := 26) (o := ?od2n26) (v := ?vd2n26) growsB ?id2n26 (by kernel_rfl) ?qd2n26 ?yd2n26 ?rd2n26
  case id2n26 => (simp only [gA, gS, gZ]; rfl)
  case qd2n26 => exact fun _ _ _ h => h
  case yd2n26 => exact .inl ⟨by rfl, by (intro w _; go_simp; try with_reducible rfl)⟩
  (try simp only [Act.put, pA, pZ, pS])
  refine tG (i := 27) (o := ?od2n27) (v := ?vd2n27) growsB ?id2n27 (by kernel_rfl) ?qd2n27 ?yd2n27 ?rd2n27
  case id2n27 => (simp only [gA, gS, gZ]; rfl)
  case qd2n27 => exact fun _ _ _ h => h
  case yd2n27 => exact .inl ⟨by rfl, by (intro w _; go_simp; try with_reducible rfl)⟩
  (try simp only [Act.put, pA, pZ, pS])
  refine tG (i := 28) (o := ?od2n28) (v := ?vd2n28) growsB ?id2n28 (by kernel_rfl) ?qd2n28 ?yd2n28 ?rd2n28
  case id2n28 => (simp only [gA, gS, gZ]; rfl)
  case qd2n28 => exact fun _ _ _ h => h
  case yd2n28 => exact .inl ⟨by rfl, by (intro w _; go_simp; try with_reducible rfl)⟩
  (try simp only [Act.put, pA, pZ, pS])
  refine wpAnyG_done (by kernel_rfl) ?_ _
  (try clear hX)
  intro w9 hX hT
  clear HF
  have oc := hX
  clear hX hT
  generalize w9 = V4 at *
  have ocY := oc
  have hxa' := hxa.below lxa ocY.2
  have lxa' := Nat.lt_of_lt_of_le lxa ocY.2.size
  have hxb' := hxb.below lxb ocY.2
  have lxb' := Nat.lt_of_lt_of_le lxb ocY.2.size
  (try clear xa0 xa1 xa2 xa3 xb0 xb1 xb2 xb3)
  have oo' := oo.step ocY.2
  clear ocY oo oc hxa lxa hxb lxb
  have hxa := hxa'
  have lxa := lxa'
  clear hxa' lxa'
  have hxb := hxb'
  have lxb := lxb'
  clear hxb' lxb'
  have oo := oo'
  clear oo'
  have oc := Ok.refl oo.1
  obtain ⟨xa0, xa1, xa2, xa3⟩ := (id hxa).quad
  obtain ⟨xb0, xb1, xb2, xb3⟩ := (id hxb).quad
  clear KNa KNb KM1 KM2 KM3
  go_upto_region 8 with (first
      | (go_at_call 11; ((with_reducible refine (KT.out _ _ (oc.step (by go_grown))).mono ?_); rintro e1 w2 ⟨rfl, hk⟩; (try clear oc); have oc := hk; clear hk; (try clear xa0 xa1 xa2 xa3); have cxa := hxa.below lxa oc.2; obtain ⟨xa0, xa1, xa2, xa3⟩ := cxa.quad; clear cxa; (try clear xb0 xb1 xb2 xb3); have cxb := hxb.below lxb oc.2; obtain ⟨xb0, xb1, xb2, xb3⟩ := cxb.quad; clear cxb))
      | (go_at_call 12; ((with_reducible refine (KO.out _ _ (oc.step (by go_grown))).mono ?_); rintro e1 w2 ⟨rfl, hk⟩; (try clear oc); have oc := hk; clear hk; (try clear xa0 xa1 xa2 xa3); have cxa := hxa.below lxa oc.2; obtain ⟨xa0, xa1, xa2, xa3⟩ := cxa.quad; clear cxa; (try clear xb0 xb1 xb2 xb3); have cxb := hxb.below lxb oc.2; obtain ⟨xb0, xb1, xb2, xb3⟩ := cxb.quad; clear cxb))
      | (go_at_call 13; ((with_reducible refine (KJ1.out _ _ (oc.step (by go_grown))).mono ?_); rintro e1 w2 ⟨rfl, hk⟩; (try clear oc); have oc := hk; clear hk; (try clear xa0 xa1 xa2 xa3); have cxa := hxa.below lxa oc.2; obtain ⟨xa0, xa1, xa2, xa3⟩ := cxa.quad; clear cxa; (try clear xb0 xb1 xb2 xb3); have cxb := hxb.below lxb oc.2; obtain ⟨xb0, xb1, xb2, xb3⟩ := cxb.quad; clear cxb)))
  obtain ⟨hxp, zxp, txp⟩ := run_new w2 p0 p1 p2 p3 _ rfl
  generalize (w2.alloc (Obj.cells #[Value.int IntKind.i8 p0, Value.int IntKind.i64 p1, Value.int IntKind.i8 p2, Value.int IntKind.i64 p3] 26)) = V5 at *
  have exp : w.heap.size ≤ w2.heap.size := (oo.step oc.2).2.size
  have lxp : w2.heap.size < V5.heap.size := by omega
  have ocY := oc.step txp
  have hxa' := hxa.below lxa ocY.2
  have lxa' := Nat.lt_of_lt_of_le lxa ocY.2.size
  have hxb' := hxb.below lxb ocY.2
  have lxb' := Nat.lt_of_lt_of_le lxb ocY.2.size
  (try clear xa0 xa1 xa2 xa3 xb0 xb1 xb2 xb3)
  have oo' := oo.step ocY.2
  clear ocY oo oc hxa lxa hxb lxb
  have hxa := hxa'
  have lxa := lxa'
  clear hxa' lxa'
  have hxb := hxb'
  have lxb := lxb'
  clear hxb' lxb'
  have oo := oo'
  clear oo'
  have oc := Ok.refl oo.1
  clear txp zxp
  generalize w2.heap.size = gxp at *
  obtain ⟨xa0, xa1, xa2, xa3⟩ := (id hxa).quad
  obtain ⟨xb0, xb1, xb2, xb3⟩ := (id hxb).quad
  obtain ⟨xp0, xp1, xp2, xp3⟩ := (id hxp).quad
  clear KJ1 KT KO
  go_upto_region 9 with (go_at_call 13; ((with_reducible refine (KJ2.out _ _ (oc.step (by go_grown))).mono ?_); rintro e1 w2 ⟨rfl, hk⟩; (try clear oc); have oc := hk; clear hk; (try clear xa0 xa1 xa2 xa3); have cxa := hxa.below lxa oc.2; obtain ⟨xa0, xa1, xa2, xa3⟩ := cxa.quad; clear cxa; (try clear xb0 xb1 xb2 xb3); have cxb := hxb.below lxb oc.2; obtain ⟨xb0, xb1, xb2, xb3⟩ := cxb.quad; clear cxb; (try clear xp0 xp1 xp2 xp3); have cxp := hxp.below lxp oc.2; obtain ⟨xp0, xp1, xp2, xp3⟩ := cxp.quad; clear cxp))
  obtain ⟨hxr, zxr, txr⟩ := run_new w2 p0 p1 p2 p3 _ rfl
  generalize (w2.alloc (Obj.cells #[Value.int IntKind.i8 p0, Value.int IntKind.i64 p1, Value.int IntKind.i8 p2, Value.int IntKind.i64 p3] 26)) = V6 at *
  have exr : w.heap.size ≤ w2.heap.size := (oo.step oc.2).2.size
  have lxr : w2.heap.size < V6.heap.size := by omega
  have ocY := oc.step txr
  have hxa' := hxa.below lxa ocY.2
  have lxa' := Nat.lt_of_lt_of_le lxa ocY.2.size
  have hxb' := hxb.below lxb ocY.2
  have lxb' := Nat.lt_of_lt_of_le lxb ocY.2.size
  have hxp' := hxp.below lxp ocY.2
  have lxp' := Nat.lt_of_lt_of_le lxp ocY.2.size
  (try clear xa0 xa1 xa2 xa3 xb0 xb1 xb2 xb3 xp0 xp1 xp2 xp3)
  have oo' := oo.step ocY.2
  clear ocY oo oc hxa lxa hxb lxb hxp lxp
  have hxa := hxa'
  have lxa := lxa'
  clear hxa' lxa'
  have hxb := hxb'
  have lxb := lxb'
  clear hxb' lxb'
  have hxp := hxp'
  have lxp := lxp'
  clear hxp' lxp'
  have oo := oo'
  clear oo'
  have oc := Ok.refl oo.1
  clear txr zxr
  generalize w2.heap.size = gxr at *
  obtain ⟨xa0, xa1, xa2, xa3⟩ := (id hxa).quad
  obtain ⟨xb0, xb1, xb2, xb3⟩ := (id hxb).quad
  obtain ⟨xp0, xp1, xp2, xp3⟩ := (id hxp).quad
  obtain ⟨xr0, xr1, xr2, xr3⟩ := (id hxr).quad
  clear KJ2
  go_upto_region 10 with (go_at_call 14; ((with_reducible refine (KK1.out _ _ (oc.step (by go_grown))).mono ?_); rintro e1 w2 ⟨rfl, hk⟩; (try clear oc); have oc := hk; clear hk; (try clear xa0 xa1 xa2 xa3); have cxa := hxa.below lxa oc.2; obtain ⟨xa0, xa1, xa2, xa3⟩ := cxa.quad; clear cxa; (try clear xb0 xb1 xb2 xb3); have cxb := hxb.below lxb oc.2; obtain ⟨xb0, xb1, xb2, xb3⟩ := cxb.quad; clear cxb; (try clear xp0 xp1 xp2 xp3); have cxp := hxp.below lxp oc.2; obtain ⟨xp0, xp1, xp2, xp3⟩ := cxp.quad; clear cxp; (try clear xr0 xr1 xr2 xr3); have cxr := hxr.below lxr oc.2; obtain ⟨xr0, xr1, xr2, xr3⟩ := cxr.quad; clear cxr))
  obtain ⟨hxq, zxq, txq⟩ := run_new w2 q0 q1 q2 q3 _ rfl
  generalize (w2.alloc (Obj.cells #[Value.int IntKind.i8 q0, Value.int IntKind.i64 q1, Value.int IntKind.i8 q2, Value.int IntKind.i64 q3] 26)) = V7 at *
  have exq : w.heap.size ≤ w2.heap.size := (oo.step oc.2).2.size
  have lxq : w2.heap.size < V7.heap.size := by omega
  have ocY := oc.step txq
  have hxa' := hxa.below lxa ocY.2
  have lxa' := Nat.lt_of_lt_of_le lxa ocY.2.size
  have hxb' := hxb.below lxb ocY.2
  have lxb' := Nat.lt_of_lt_of_le lxb ocY.2.size
  have hxp' := hxp.below lxp ocY.2
  have lxp' := Nat.lt_of_lt_of_le lxp ocY.2.size
  have hxr' := hxr.below lxr ocY.2
  have lxr' := Nat.lt_of_lt_of_le lxr ocY.2.size
  (try clear xa0 xa1 xa2 xa3 xb0 xb1 xb2 xb3 xp0 xp1 xp2 xp3 xr0 xr1 xr2 xr3)
  have oo' := oo.step ocY.2
  clear ocY oo oc hxa lxa hxb lxb hxp lxp hxr lxr
  have hxa := hxa'
  have lxa := lxa'
  clear hxa' lxa'
  have hxb := hxb'
  have lxb := lxb'
  clear hxb' lxb'
  have hxp := hxp'
  have lxp := lxp'
  clear hxp' lxp'
  have hxr := hxr'
  have lxr := lxr'
  clear hxr' lxr'
  have oo := oo'
  clear oo'
  have oc := Ok.refl oo.1
  clear txq zxq
  generalize w2.heap.size = gxq at *
  obtain ⟨xa0, xa1, xa2, xa3⟩ := (id hxa).quad
  obtain ⟨xb0, xb1, xb2, xb3⟩ := (id hxb).quad
  obtain ⟨xp0, xp1, xp2, xp3⟩ := (id hxp).quad
  obtain ⟨xr0, xr1, xr2, xr3⟩ := (id hxr).quad
  obtain ⟨xq0, xq1, xq2, xq3⟩ := (id hxq).quad
  clear KK1
  go_upto_region 11 with (go_at_call 14; ((with_reducible refine (KK2.out _ _ (oc.step (by go_grown))).mono ?_); rintro e1 w2 ⟨rfl, hk⟩; (try clear oc); have oc := hk; clear hk; (try clear xa0 xa1 xa2 xa3); have cxa := hxa.below lxa oc.2; obtain ⟨xa0, xa1, xa2, xa3⟩ := cxa.quad; clear cxa; (try clear xb0 xb1 xb2 xb3); have cxb := hxb.below lxb oc.2; obtain ⟨xb0, xb1, xb2, xb3⟩ := cxb.quad; clear cxb; (try clear xp0 xp1 xp2 xp3); have cxp := hxp.below lxp oc.2; obtain ⟨xp0, xp1, xp2, xp3⟩ := cxp.quad; clear cxp; (try clear xr0 xr1 xr2 xr3); have cxr := hxr.below lxr oc.2; obtain ⟨xr0, xr1, xr2, xr3⟩ := cxr.quad; clear cxr; (try clear xq0 xq1 xq2 xq3); have cxq := hxq.below lxq oc.2; obtain ⟨xq0, xq1, xq2, xq3⟩ := cxq.quad; clear cxq))
  obtain ⟨hxs, zxs, txs⟩ := run_new w2 q0 q1 q2 q3 _ rfl
  generalize (w2.alloc (Obj.cells #[Value.int IntKind.i8 q0, Value.int IntKind.i64 q1, Value.int IntKind.i8 q2, Value.int IntKind.i64 q3] 26)) = V8 at *
  have exs : w.heap.size ≤ w2.heap.size := (oo.step oc.2).2.size
  have lxs : w2.heap.size < V8.heap.size := by omega
  have ocY := oc.step txs
  have hxa' := hxa.below lxa ocY.2
  have lxa' := Nat.lt_of_lt_of_le lxa ocY.2.size
  have hxb' := hxb.below lxb ocY.2
  have lxb' := Nat.lt_of_lt_of_le lxb ocY.2.size
  have hxp' := hxp.below lxp ocY.2
  have lxp' := Nat.lt_of_lt_of_le lxp ocY.2.size
  have hxr' := hxr.below lxr ocY.2
  have lxr' := Nat.lt_of_lt_of_le lxr ocY.2.size
  have hxq' := hxq.below lxq ocY.2
  have lxq' := Nat.lt_of_lt_of_le lxq ocY.2.size
  (try clear xa0 xa1 xa2 xa3 xb0 xb1 xb2 xb3 xp0 xp1 xp2 xp3 xr0 xr1 xr2 xr3 xq0 xq1 xq2 xq3)
  have oo' := oo.step ocY.2
  clear ocY oo oc hxa lxa hxb lxb hxp lxp hxr lxr hxq lxq
  have hxa := hxa'
  have lxa := lxa'
  clear hxa' lxa'
  have hxb := hxb'
  have lxb := lxb'
  clear hxb' lxb'
  have hxp := hxp'
  have lxp := lxp'
  clear hxp' lxp'
  have hxr := hxr'
  have lxr := lxr'
  clear hxr' lxr'
  have hxq := hxq'
  have lxq := lxq'
  clear hxq' lxq'
  have oo := oo'
  clear oo'
  have oc := Ok.refl oo.1
  clear txs zxs
  generalize w2.heap.size = gxs at *
  obtain ⟨xa0, xa1, xa2, xa3⟩ := (id hxa).quad
  obtain ⟨xb0, xb1, xb2, xb3⟩ := (id hxb).quad
  obtain ⟨xp0, xp1, xp2, xp3⟩ := (id hxp).quad
  obtain ⟨xr0, xr1, xr2, xr3⟩ := (id hxr).quad
  obtain ⟨xq0, xq1, xq2, xq3⟩ := (id hxq).quad
  obtain ⟨xs0, xs1, xs2, xs3⟩ := (id hxs).quad
  clear KK2
  (try clear xa0 xa1 xa2 xa3 xb0 xb1 xb2 xb3 xp0 xp1 xp2 xp3 xr0 xr1 xr2 xr3 xq0 xq1 xq2 xq3 xs0 xs1 xs2 xs3)
  have HF := Lib.hid (fun X (h : Ok V8 X) => And.intro (hxa.below lxa h.2).quad (And.intro (hxb.below lxb h.2).quad (And.intro (hxp.below lxp h.2).quad (And.intro (hxr.below lxr h.2).quad (And.intro (hxq.below lxq h.2).quad (And.intro (hxs.below lxs h.2).quad (trivial)))))))
  refine wp_region_G (S := (Ok V8)) (by kernel_rfl) growsB (oc.step (by go_grown)) ?_
  refine tG (i := 0) (o := ?od3n0) (v := ?vd3n0) growsB ?id3n0 (by kernel_rfl) ?qd3n0 ?yd3n0 ?rd3n0
  case id3n0 => (simp only [gA, gZ]; rfl)
  case qd3n0 => exact fun _ _ _ h => h
  case yd3n0 => exact .inl ⟨by rfl, by (intro w hSw; obtain ⟨⟨xa0, xa1, xa2, xa3⟩, ⟨xb0, xb1, xb2, xb3⟩, ⟨xp0, xp1, xp2, xp3⟩, ⟨xr0, xr1, xr2, xr3⟩, ⟨xq0, xq1, xq2, xq3⟩, ⟨xs0, xs1, xs2, xs3⟩, -⟩ := HF.out w hSw; go_simp; try with_reducible rfl)⟩
  (try simp only [Act.put, pA, pZ, pS])
  refine tG (i := 1) (o := ?od3n1) (v := ?vd3n1) growsB ?id3n1 (by kernel_rfl) ?qd3n1 ?yd3n1 ?rd3n1
  case id3n1 => (simp only [gA, gS, gZ]; rfl)
  case qd3n1 => exact fun _ _ _ h => h
  case yd3n1 => exact .inl ⟨by rfl, by (intro w hSw; obtain ⟨⟨xa0, xa1, xa2, xa3⟩, ⟨xb0, xb1, xb2, xb3⟩, ⟨xp0, xp1, xp2, xp3⟩, ⟨xr0, xr1, xr2, xr3⟩, ⟨xq0, xq1, xq2, xq3⟩, ⟨xs0, xs1, xs2, xs3⟩, -⟩ := HF.out w hSw; go_simp; try with_reducible rfl)⟩
  (try simp only [Act.put, pA, pZ, pS])
  refine cG (i := 2) (o := ?od3n2) growsB ?id3n2 (by kernel_rfl) ?qd3n2 ?wd3n2 ?ed3n2 (fun X hX => callO KT1.out hX) ?rd3n2
  case id3n2 => (simp only [gA, gS, gZ]; rfl)
  case qd3n2 => exact fun _ _ _ h => h
  case wd3n2 => rfl
  case ed3n2 => (intro w; go_simp; try with_reducible rfl)
  (try simp only [Act.put, pA, pZ, pS])
  refine tG (i := 3) (o := ?od3n3) (v := ?vd3n3) growsB ?id3n3 (by kernel_rfl) ?qd3n3 ?yd3n3 ?rd3n3
  case id3n3 => (simp only [gA, gS, gZ]; rfl)
  case qd3n3 => exact fun _ _ _ h => h
  case yd3n3 => exact .inl ⟨by rfl, by (intro w _; go_simp; try with_reducible rfl)⟩
  (try simp only [Act.put, pA, pZ, pS])
  refine tG (i := 4) (o := ?od3n4) (v := ?vd3n4) growsB ?id3n4 (by kernel_rfl) ?qd3n4 ?yd3n4 ?rd3n4
  case id3n4 => (simp only [gA, gS, gZ]; rfl)
  case qd3n4 => exact fun _ _ _ h => h
  case yd3n4 => exact .inl ⟨by rfl, by (intro w _; go_simp; try with_reducible rfl)⟩
  (try simp only [Act.put, pA, pZ, pS])
  refine tG (i := 5) (o := ?od3n5) (v := ?vd3n5) growsB ?id3n5 (by kernel_rfl) ?qd3n5 ?yd3n5 ?rd3n5
  case id3n5 => (simp only [gA, gS, gZ]; rfl)
  case qd3n5 => exact fun _ _ _ h => h
  case yd3n5 => exact .inl ⟨by rfl, by (intro w _; go_simp; try with_reducible rfl)⟩
  (try simp only [Act.put, pA, pZ, pS])
  refine tG (i := 6) (o := ?od3n6) (v := ?vd3n6) growsB ?id3n6 (by kernel_rfl) ?qd3n6 ?yd3n6 ?rd3n6
  case id3n6 => (simp only [gA, gS, gZ]; rfl)
  case qd3n6 => exact fun _ _ _ h => h
  case yd3n6 => exact .inl ⟨by rfl, by (intro w hSw; obtain ⟨⟨xa0, xa1, xa2, xa3⟩, ⟨xb0, xb1, xb2, xb3⟩, ⟨xp0, xp1, xp2, xp3⟩, ⟨xr0, xr1, xr2, xr3⟩, ⟨xq0, xq1, xq2, xq3⟩, ⟨xs0, xs1, xs2, xs3⟩, -⟩ := HF.out w hSw; go_simp; try with_reducible rfl)⟩
  (try simp only [Act.put, pA, pZ, pS])
  refine tG (i := 7) (o := ?od3n7) (v := ?vd3n7) growsB ?id3n7 (by kernel_rfl) ?qd3n7 ?yd3n7 ?rd3n7
  case id3n7 => (simp only [gA, gS, gZ]; rfl)
  case qd3n7 => exact fun _ _ _ h => h
  case yd3n7 => exact .inl ⟨by rfl, by (intro w hSw; obtain ⟨⟨xa0, xa1, xa2, xa3⟩, ⟨xb0, xb1, xb2, xb3⟩, ⟨xp0, xp1, xp2, xp3⟩, ⟨xr0, xr1, xr2, xr3⟩, ⟨xq0, xq1, xq2, xq3⟩, ⟨xs0, xs1, xs2, xs3⟩, -⟩ := HF.out w hSw; go_simp; try with_reducible rfl)⟩
  (try simp only [Act.put, pA, pZ, pS])
  refine cG (i := 8) (o := ?od3n8) growsB ?id3n8 (by kernel_rfl) ?qd3n8 ?wd3n8 ?ed3n8 (fun X hX => callO KT2.out hX) ?rd3n8
  case id3n8 => (simp only [gA, gS, gZ]; rfl)
  case qd3n8 => exact fun _ _ _ h => h
  case wd3n8 => rfl
  case ed3n8 => (intro w; go_simp; try with_reducible rfl)
  (try simp only [Act.put, pA, pZ, pS])
  refine tG (i := 9) (o := ?od3n9) (v := ?vd3n9) growsB ?id3n9 (by kernel_rfl) ?qd3n9 ?yd3n9 ?rd3n9
  case id3n9 => (simp only [gA, gS, gZ]; rfl)
  case qd3n9 => exact fun _ _ _ h => h
  case yd3n9 => exact .inl ⟨by rfl, by (intro w _; go_simp; try with_reducible rfl)⟩
  (try simp only [Act.put, pA, pZ, pS])
  refine tG (i := 10) (o := ?od3n10) (v := ?vd3n10) growsB ?id3n10 (by kernel_rfl) ?qd3n10 ?yd3n10 ?rd3n10
  case id3n10 => (simp only [gA, gS, gZ]; rfl)
  case qd3n10 => exact fun _ _ _ h => h
  case yd3n10 => exact .inl ⟨by rfl, by (intro w _; go_simp; try with_reducible rfl)⟩
  (try simp only [Act.put, pA, pZ, pS])
  refine tG (i := 11) (o := ?od3n11) (v := ?vd3n11) growsB ?id3n11 (by kernel_rfl) ?qd3n11 ?yd3n11 ?rd3n11
  case id3n11 => (simp only [gA, gS, gZ]; rfl)
  case qd3n11 => exact fun _ _ _ h => h
  case yd3n11 => exact .inl ⟨by rfl, by (intro w _; go_simp; try with_reducible rfl)⟩
  (try simp only [Act.put, pA, pZ, pS])
  refine tG (i := 12) (o := ?od3n12) (v := ?vd3n12) growsB ?id3n12 (by kernel_rfl) ?qd3n12 ?yd3n12 ?rd3n12
  case id3n12 => (simp only [gA, gS, gZ]; rfl)
  case qd3n12 => exact fun _ _ _ h => h
  case yd3n12 => exact .inl ⟨by rfl, by (intro w _; go_simp; try with_reducible rfl)⟩
  (try simp only [Act.put, pA, pZ, pS])
  refine tG (i := 13) (o := ?od3n13) (v := ?vd3n13) growsB ?id3n13 (by kernel_rfl) ?qd3n13 ?yd3n13 ?rd3n13
  case id3n13 => (simp only [gA, gS, gZ]; rfl)
  case qd3n13 => exact fun _ _ _ h => h
  case yd3n13 => exact .inl ⟨by rfl, by (intro w hSw; obtain ⟨⟨xa0, xa1, xa2, xa3⟩, ⟨xb0, xb1, xb2, xb3⟩, ⟨xp0, xp1, xp2, xp3⟩, ⟨xr0, xr1, xr2, xr3⟩, ⟨xq0, xq1, xq2, xq3⟩, ⟨xs0, xs1, xs2, xs3⟩, -⟩ := HF.out w hSw; go_simp; try with_reducible rfl)⟩
  (try simp only [Act.put, pA, pZ, pS])
  refine tG (i := 14) (o := ?od3n14) (v := ?vd3n14) growsB ?id3n14 (by kernel_rfl) ?qd3n14 ?yd3n14 ?rd3n14
  case id3n14 => (simp only [gA, gS, gZ]; rfl)
  case qd3n14 => exact fun _ _ _ h => h
  case yd3n14 => exact .inl ⟨by rfl, by (intro w _; go_simp; try with_reducible rfl)⟩
  (try simp only [Act.put, pA, pZ, pS])
  refine tG (i := 15) (o := ?od3n15) (v := ?vd3n15) growsB ?id3n15 (by kernel_rfl) ?qd3n15 ?yd3n15 ?rd3n15
  case id3n15 => (simp only [gA, gS, gZ]; rfl)
  case qd3n15 => exact fun _ _ _ h => h
  case yd3n15 => exact .inl ⟨by rfl, by (intro w hSw; obtain ⟨⟨xa0, xa1, xa2, xa3⟩, ⟨xb0, xb1, xb2, xb3⟩, ⟨xp0, xp1, xp2, xp3⟩, ⟨xr0, xr1, xr2, xr3⟩, ⟨xq0, xq1, xq2, xq3⟩, ⟨xs0, xs1, xs2, xs3⟩, -⟩ := HF.out w hSw; go_simp; try with_reducible rfl)⟩
  (try simp only [Act.put, pA, pZ, pS])
  refine tG (i := 16) (o := ?od3n16) (v := ?vd3n16) growsB ?id3n16 (by kernel_rfl) ?qd3n16 ?yd3n16 ?rd3n16
  case id3n16 => (simp only [gA, gS, gZ]; rfl)
  case qd3n16 => exact fun _ _ _ h => h
  case yd3n16 => exact .inl ⟨by rfl, by (intro w hSw; obtain ⟨⟨xa0, xa1, xa2, xa3⟩, ⟨xb0, xb1, xb2, xb3⟩, ⟨xp0, xp1, xp2, xp3⟩, ⟨xr0, xr1, xr2, xr3⟩, ⟨xq0, xq1, xq2, xq3⟩, ⟨xs0, xs1, xs2, xs3⟩, -⟩ := HF.out w hSw; go_simp; try with_reducible rfl)⟩
  (try simp only [Act.put, pA, pZ, pS])
  refine cG (i := 17) (o := ?od3n17) growsB ?id3n17 (by kernel_rfl) ?qd3n17 ?wd3n17 ?ed3n17 (fun X hX => callO KRJ.out hX) ?rd3n17
  case id3n17 => (simp only [gA, gS, gZ]; rfl)
  case qd3n17 => exact fun _ _ _ h => h
  case wd3n17 => rfl
  case ed3n17 => (intro w; go_simp; try with_reducible rfl)
  (try simp only [Act.put, pA, pZ, pS])
  refine tG (i := 18) (o := ?od3n18) (v := ?vd3n18) growsB ?id3n18 (by kernel_rfl) ?qd3n18 ?yd3n18 ?rd3n18
  case id3n18 => (simp only [gA, gS, gZ]; rfl)
  case qd3n18 => exact fun _ _ _ h => h
  case yd3n18 => exact .inl ⟨by rfl, by (intro w _; go_simp; try with_reducible rfl)⟩
  (try simp only [Act.put, pA, pZ, pS])
  refine cG (i := 19) (o := ?od3n19) growsB ?id3n19 (by kernel_rfl) ?qd3n19 ?wd3n19 ?ed3n19 (fun X hX => callO KF1.out hX) ?rd3n19
  case id3n19 => (simp only [gA, gS, gZ]; rfl)
  case qd3n19 => exact fun _ _ _ h => h
  case wd3n19 => rfl
  case ed3n19 => (intro w; go_simp; try with_reducible rfl)
  (try simp only [Act.put, pA, pZ, pS])
  refine tG (i := 20) (o := ?od3n20) (v := ?vd3n20) growsB ?id3n20 (by kernel_rfl) ?qd3n20 ?yd3n20 ?rd3n20
  case id3n20 => (simp only [gA, gS, gZ]; rfl)
  case qd3n20 => exact fun _ _ _ h => h
  case yd3n20 => exact .inl ⟨by rfl, by (intro w _; go_simp; try with_reducible rfl)⟩
  (try simp only [Act.put, pA, pZ, pS])
  refine tG (i := 21) (o := ?od3n21) (v := ?vd3n21) growsB ?id3n21 (by kernel_rfl) ?qd3n21 ?yd3n21 ?rd3n21
  case id3n21 => (simp only [gA, gS, gZ]; rfl)
  case qd3n21 => exact fun _ _ _ h => h
  case yd3n21 => exact .inl ⟨by rfl, by (intro w _; go_simp; try with_reducible rfl)⟩
  (try simp only [Act.put, pA, pZ, pS])
  refine tG (i := 22) (o := ?od3n22) (v := ?vd3n22) growsB ?id3n22 (by kernel_rfl) ?qd3n22 ?yd3n22 ?rd3n22
  case id3n22 => (simp only [gA, gS, gZ]; rfl)
  case qd3n22 => exact fun _ _ _ h => h
  case yd3n22 => exact .inl ⟨by rfl, by (intro w _; go_simp; try with_reducible rfl)⟩
  (try simp only [Act.put, pA, pZ, pS])
  refine tG (i := 23) (o := ?od3n23) (v := ?vd3n23) growsB ?id3n23 (by kernel_rfl) ?qd3n23 ?yd3n23 ?rd3n23
  case id3n23 => (simp only [gA, gS, gZ]; rfl)
  case qd3n23 => exact fun _ _ _ h => h
  case yd3n23 => exact .inl ⟨by rfl, by (intro w hSw; obtain ⟨⟨xa0, xa1, xa2, xa3⟩, ⟨xb0, xb1, xb2, xb3⟩, ⟨xp0, xp1, xp2, xp3⟩, ⟨xr0, xr1, xr2, xr3⟩, ⟨xq0, xq1, xq2, xq3⟩, ⟨xs0, xs1, xs2, xs3⟩, -⟩ := HF.out w hSw; go_simp; try with_reducible rfl)⟩
  (try simp only [Act.put, pA, pZ, pS])
  refine tG (i := 24) (o := ?od3n24) (v := ?vd3n24) growsB ?id3n24 (by kernel_rfl) ?qd3n24 ?yd3n24 ?rd3n24
  case id3n24 => (simp only [gA, gS, gZ]; rfl)
  case qd3n24 => exact fun _ _ _ h => h
  case yd3n24 => exact .inl ⟨by rfl, by (intro w hSw; obtain ⟨⟨xa0, xa1, xa2, xa3⟩, ⟨xb0, xb1, xb2, xb3⟩, ⟨xp0, xp1, xp2, xp3⟩, ⟨xr0, xr1, xr2, xr3⟩, ⟨xq0, xq1, xq2, xq3⟩, ⟨xs0, xs1, xs2, xs3⟩, -⟩ := HF.out w hSw; go_simp; try with_reducible rfl)⟩
  (try simp only [Act.put, pA, pZ, pS])
  refine tG (i := 25) (o := ?od3n25) (v := ?vd3n25) growsB ?id3n25 (by kernel_rfl) ?qd3n25 ?yd3n25 ?rd3n25
  case id3n25 => (simp only [gA, gS, gZ]; rfl)
  case qd3n25 => exact fun _ _ _ h => h
  case yd3n25 => exact .inl ⟨by rfl, by (intro w _; go_simp; try with_reducible rfl)⟩
  (try simp only [Act.put, pA, pZ, pS])
  refine tG (i := 26) (o := ?od3n26) (v := ?vd3n26) growsB ?id3n26 (by kernel_rfl) ?qd3n26 ?yd3n26 ?rd3n26
  case id3n26 => (simp only [gA, gS, gZ]; rfl)
  case qd3n26 => exact fun _ _ _ h => h
  case yd3n26 => exact .inl ⟨by rfl, by (intro w _; go_simp; try with_reducible rfl)⟩
  (try simp only [Act.put, pA, pZ, pS])
  refine tG (i := 27) (o := ?od3n27) (v := ?vd3n27) growsB ?id3n27 (by kernel_rfl) ?qd3n27 ?yd3n27 ?rd3n27
  case id3n27 => (simp only [gA, gS, gZ]; rfl)
  case qd3n27 => exact fun _ _ _ h => h
  case yd3n27 => exact .inl ⟨by rfl, by (intro w _; go_simp; try with_reducible rfl)⟩
  (try simp only [Act.put, pA, pZ, pS])
  refine tG (i := 28) (o := ?od3n28) (v := ?vd3n28) growsB ?id3n28 (by kernel_rfl) ?qd3n28 ?yd3n28 ?rd3n28
  case id3n28 => (simp only [gA, gS, gZ]; rfl)
  case qd3n28 => exact fun _ _ _ h => h
  case yd3n28 => exact .inl ⟨by rfl, by (intro w _; go_simp; try with_reducible rfl)⟩
  (try simp only [Act.put, pA, pZ, pS])
  refine tG (i := 29) (o := ?od3n29) (v := ?vd3n29) growsB ?id3n29 (by kernel_rfl) ?qd3n29 ?yd3n29 ?rd3n29
  case id3n29 => (simp only [gA, gS, gZ]; rfl)
  case qd3n29 => exact fun _ _ _ h => h
  case yd3n29 => exact .inl ⟨by rfl, by (intro w _; go_simp; try with_reducible rfl)⟩
  (try simp only [Act.put, pA, pZ, pS])
  refine tG (i := 30) (o := ?od3n30) (v := ?vd3n30) growsB ?id3n30 (by kernel_rfl) ?qd3n30 ?yd3n30 ?rd3n30
  case id3n30 => (simp only [gA, gS, gZ]; rfl)
  case qd3n30 => exact fun _ _ _ h => h
  case yd3n30 => exact .inl ⟨by rfl, by (intro w _; go_simp; try with_reducible rfl)⟩
  (try simp only [Act.put, pA, pZ, pS])
  refine tG (i := 31) (o := ?od3n31) (v := ?vd3n31) growsB ?id3n31 (by kernel_rfl) ?qd3n31 ?yd3n31 ?rd3n31
  case id3n31 => (simp only [gA, gS, gZ]; rfl)
  case qd3n31 => exact fun _ _ _ h => h
  case yd3n31 => exact .inl ⟨by rfl, by (intro w _; go_simp; try with_reducible rfl)⟩
  (try simp only [Act.put, pA, pZ, pS])
  refine tG (i := 32) (o := ?od3n32) (v := ?vd3n32) growsB ?id3n32 (by kernel_rfl) ?qd3n32 ?yd3n32 ?rd3n32
  case id3n32 => (simp only [gA, gS, gZ]; rfl)
  case qd3n32 => exact fun _ _ _ h => h
  case yd3n32 => exact .inl ⟨by rfl, by (intro w _; go_simp; try with_reducible rfl)⟩
  (try simp only [Act.put, pA, pZ, pS])
  refine tG (i := 33) (o := ?od3n33) (v := ?vd3n33) growsB ?id3n33 (by kernel_rfl) ?qd3n33 ?yd3n33 ?rd3n33
  case id3n33 => (simp only [gA, gS, gZ]; rfl)
  case qd3n33 => exact fun _ _ _ h => h
  case yd3n33 => exact .inl ⟨by rfl, by (intro w hSw; obtain ⟨⟨xa0, xa1, xa2, xa3⟩, ⟨xb0, xb1, xb2, xb3⟩, ⟨xp0, xp1, xp2, xp3⟩, ⟨xr0, xr1, xr2, xr3⟩, ⟨xq0, xq1, xq2, xq3⟩, ⟨xs0, xs1, xs2, xs3⟩, -⟩ := HF.out w hSw; go_simp; try with_reducible rfl)⟩
  (try simp only [Act.put, pA, pZ, pS])
  refine tG (i := 34) (o := ?od3n34) (v := ?vd3n34) growsB ?id3n34 (by kernel_rfl) ?qd3n34 ?yd3n34 ?rd3n34
  case id3n34 => (simp only [gA, gS, gZ]; rfl)
  case qd3n34 => exact fun _ _ _ h => h
  case yd3n34 => exact .inl ⟨by rfl, by (intro w _; go_simp; try with_reducible rfl)⟩
  (try simp only [Act.put, pA, pZ, pS])
  refine tG (i := 35) (o := ?od3n35) (v := ?vd3n35) growsB ?id3n35 (by kernel_rfl) ?qd3n35 ?yd3n35 ?rd3n35
  case id3n35 => (simp only [gA, gS, gZ]; rfl)
  case qd3n35 => exact fun _ _ _ h => h
  case yd3n35 => exact .inl ⟨by rfl, by (intro w hSw; obtain ⟨⟨xa0, xa1, xa2, xa3⟩, ⟨xb0, xb1, xb2, xb3⟩, ⟨xp0, xp1, xp2, xp3⟩, ⟨xr0, xr1, xr2, xr3⟩, ⟨xq0, xq1, xq2, xq3⟩, ⟨xs0, xs1, xs2, xs3⟩, -⟩ := HF.out w hSw; go_simp; try with_reducible rfl)⟩
  (try simp only [Act.put, pA, pZ, pS])
  refine tG (i := 36) (o := ?od3n36) (v := ?vd3n36) growsB ?id3n36 (by kernel_rfl) ?qd3n36 ?yd3n36 ?rd3n36
  case id3n36 => (simp only [gA, gS, gZ]; rfl)
  case qd3n36 => exact fun _ _ _ h => h
  case yd3n36 => exact .inl ⟨by rfl, by (intro w hSw; obtain ⟨⟨xa0, xa1, xa2, xa3⟩, ⟨xb0, xb1, xb2, xb3⟩, ⟨xp0, xp1, xp2, xp3⟩, ⟨xr0, xr1, xr2, xr3⟩, ⟨xq0, xq1, xq2, xq3⟩, ⟨xs0, xs1, xs2, xs3⟩, -⟩ := HF.out w hSw; go_simp; try with_reducible rfl)⟩
  (try simp only [Act.put, pA, pZ, pS])
  refine cG (i := 37) (o := ?od3n37) growsB ?id3n37 (by kernel_rfl) ?qd3n37 ?wd3n37 ?ed3n37 (fun X hX => callO KRK.out hX) ?rd3n37
  case id3n37 => (simp only [gA, gS, gZ]; rfl)
  case qd3n37 => exact fun _ _ _ h => h
  case wd3n37 => rfl
  case ed3n37 => (intro w; go_simp; try with_reducible rfl)
  (try simp only [Act.put, pA, pZ, pS])
  refine tG (i := 38) (o := ?od3n38) (v := ?vd3n38) growsB ?id3n38 (by kernel_rfl) ?qd3n38 ?yd3n38 ?rd3n38
  case id3n38 => (simp only [gA, gS, gZ]; rfl)
  case qd3n38 => exact fun _ _ _ h => h
  case yd3n38 => exact .inl ⟨by rfl, by (intro w _; go_simp; try with_reducible rfl)⟩
  (try simp only [Act.put, pA, pZ, pS])
  refine cG (i := 39) (o := ?od3n39) growsB ?id3n39 (by kernel_rfl) ?qd3n39 ?wd3n39 ?ed3n39 (fun X hX => callO KF2.out hX) ?rd3n39
  case id3n39 => (simp only [gA, gS, gZ]; rfl)
  case qd3n39 => exact fun _ _ _ h => h
  case wd3n39 => rfl
  case ed3n39 => (intro w; go_simp; try with_reducible rfl)
  (try simp only [Act.put, pA, pZ, pS])
  refine tG (i := 40) (o := ?od3n40) (v := ?vd3n40) growsB ?id3n40 (by kernel_rfl) ?qd3n40 ?yd3n40 ?rd3n40
  case id3n40 => (simp only [gA, gS, gZ]; rfl)
  case qd3n40 => exact fun _ _ _ h => h
  case yd3n40 => exact .inl ⟨by rfl, by (intro w _; go_simp; try with_reducible rfl)⟩
  (try simp only [Act.put, pA, pZ, pS])
  refine tG (i := 41) (o := ?od3n41) (v := ?vd3n41) growsB ?id3n41 (by kernel_rfl) ?qd3n41 ?yd3n41 ?rd3n41
  case id3n41 => (simp only [gA, gS, gZ]; rfl)
  case qd3n41 => exact fun _ _ _ h => h
  case yd3n41 => exact .inl ⟨by rfl, by (intro w _; go_simp; try with_reducible rfl)⟩
  (try simp only [Act.put, pA, pZ, pS])
  refine tG (i := 42) (o := ?od3n42) (v := ?vd3n42) growsB ?id3n42 (by kernel_rfl) ?qd3n42 ?yd3n42 ?rd3n42
  case id3n42 => (simp only [gA, gS, gZ]; rfl)
  case qd3n42 => exact fun _ _ _ h => h
  case yd3n42 => exact .inl ⟨by rfl, by (intro w _; go_simp; try with_reducible rfl)⟩
  (try simp only [Act.put, pA, pZ, pS])
  refine tG (i := 43) (o := ?od3n43) (v := ?vd3n43) growsB ?id3n43 (by kernel_rfl) ?qd3n43 ?yd3n43 ?rd3n43
  case id3n43 => (simp only [gA, gS, gZ]; rfl)
  case qd3n43 => exact fun _ _ _ h => h
  case yd3n43 => exact .inl ⟨by rfl, by (intro w hSw; obtain ⟨⟨xa0, xa1, xa2, xa3⟩, ⟨xb0, xb1, xb2, xb3⟩, ⟨xp0, xp1, xp2, xp3⟩, ⟨xr0, xr1, xr2, xr3⟩, ⟨xq0, xq1, xq2, xq3⟩, ⟨xs0, xs1, xs2, xs3⟩, -⟩ := HF.out w hSw; go_simp; try with_reducible rfl)⟩
  (try simp only [Act.put, pA, pZ, pS])
  refine tG (i := 44) (o := ?od3n44) (v := ?vd3n44) growsB ?id3n44 (by kernel_rfl) ?qd3n44 ?yd3n44 ?rd3n44
  case id3n44 => (simp only [gA, gS, gZ]; rfl)
  case qd3n44 => exact fun _ _ _ h => h
  case yd3n44 => exact .inl ⟨by rfl, by (intro w hSw; obtain ⟨⟨xa0, xa1, xa2, xa3⟩, ⟨xb0, xb1, xb2, xb3⟩, ⟨xp0, xp1, xp2, xp3⟩, ⟨xr0, xr1, xr2, xr3⟩, ⟨xq0, xq1, xq2, xq3⟩, ⟨xs0, xs1, xs2, xs3⟩, -⟩ := HF.out w hSw; go_simp; try with_reducible rfl)⟩
  (try simp only [Act.put, pA, pZ, pS])
  refine tG (i := 45) (o := ?od3n45) (v := ?vd3n45) growsB ?id3n45 (by kernel_rfl) ?qd3n45 ?yd3n45 ?rd3n45
  case id3n45 => (simp only [gA, gS, gZ]; rfl)
  case qd3n45 => exact fun _ _ _ h => h
  case yd3n45 => exact .inl ⟨by rfl, by (intro w _; go_simp; try with_reducible rfl)⟩
  (try simp only [Act.put, pA, pZ, pS])
  refine tG (i := 46) (o := ?od3n46) (v := ?vd3n46) growsB ?id3n46 (by kernel_rfl) ?qd3n46 ?yd3n46 ?rd3n46
  case id3n46 => (simp only [gA, gS, gZ]; rfl)
  case qd3n46 => exact fun _ _ _ h => h
  case yd3n46 => exact .inl ⟨by rfl, by (intro w _; go_simp; try with_reducible rfl)⟩
  (try simp only [Act.put, pA, pZ, pS])
  refine tG (i := 47) (o := ?od3n47) (v := ?vd3n47) growsB ?id3n47 (by kernel_rfl) ?qd3n47 ?yd3n47 ?rd3n47
  case id3n47 => (simp only [gA, gS, gZ]; rfl)
  case qd3n47 => exact fun _ _ _ h => h
  case yd3n47 => exact .inl ⟨by rfl, by (intro w _; go_simp; try with_reducible rfl)⟩
  (try simp only [Act.put, pA, pZ, pS])
  refine tG (i := 48) (o := ?od3n48) (v := ?vd3n48) growsB ?id3n48 (by kernel_rfl) ?qd3n48 ?yd3n48 ?rd3n48
  case id3n48 => (simp only [gA, gS, gZ]; rfl)
  case qd3n48 => exact fun _ _ _ h => h
  case yd3n48 => exact .inl ⟨by rfl, by (intro w _; go_simp; try with_reducible rfl)⟩
  (try simp only [Act.put, pA, pZ, pS])
  refine tG (i := 49) (o := ?od3n49) (v := ?vd3n49) growsB ?id3n49 (by kernel_rfl) ?qd3n49 ?yd3n49 ?rd3n49
  case id3n49 => (simp only [gA, gS, gZ]; rfl)
  case qd3n49 => exact fun _ _ _ h => h
  case yd3n49 => exact .inl ⟨by rfl, by (intro w _; go_simp; try with_reducible rfl)⟩
  (try simp only [Act.put, pA, pZ, pS])
  refine tG (i := 50) (o := ?od3n50) (v := ?vd3n50) growsB ?id3n50 (by kernel_rfl) ?qd3n50 ?yd3n50 ?rd3n50
  case id3n50 => (simp only [gA, gS, gZ]; rfl)
  case qd3n50 => exact fun _ _ _ h => h
  case yd3n50 => exact .inl ⟨by rfl, by (intro w _; go_simp; try with_reducible rfl)⟩
  (try simp only [Act.put, pA, pZ, pS])
  refine tG (i := 51) (o := ?od3n51) (v := ?vd3n51) growsB ?id3n51 (by kernel_rfl) ?qd3n51 ?yd3n51 ?rd3n51
  case id3n51 => (simp only [gA, gS, gZ]; rfl)
  case qd3n51 => exact fun _ _ _ h => h
  case yd3n51 => exact .inl ⟨by rfl, by (intro w _; go_simp; try with_reducible rfl)⟩
  (try simp only [Act.put, pA, pZ, pS])
  refine wpAnyG_done (by kernel_rfl) ?_ _
  (try clear hX)
  intro w9 hX hT
  clear HF
  have oc := hX
  clear hX hT
  generalize w9 = V9 at *
  have ocY := oc
  have hxa' := hxa.below lxa ocY.2
  have lxa' := Nat.lt_of_lt_of_le lxa ocY.2.size
  have hxb' := hxb.below lxb ocY.2
  have lxb' := Nat.lt_of_lt_of_le lxb ocY.2.size
  have hxp' := hxp.below lxp ocY.2
  have lxp' := Nat.lt_of_lt_of_le lxp ocY.2.size
  have hxr' := hxr.below lxr ocY.2
  have lxr' := Nat.lt_of_lt_of_le lxr ocY.2.size
  have hxq' := hxq.below lxq ocY.2
  have lxq' := Nat.lt_of_lt_of_le lxq ocY.2.size
  have hxs' := hxs.below lxs ocY.2
  have lxs' := Nat.lt_of_lt_of_le lxs ocY.2.size
  (try clear xa0 xa1 xa2 xa3 xb0 xb1 xb2 xb3 xp0 xp1 xp2 xp3 xr0 xr1 xr2 xr3 xq0 xq1 xq2 xq3 xs0 xs1 xs2 xs3)
  have oo' := oo.step ocY.2
  clear ocY oo oc hxa lxa hxb lxb hxp lxp hxr lxr hxq lxq hxs lxs
  have hxa := hxa'
  have lxa := lxa'
  clear hxa' lxa'
  have hxb := hxb'
  have lxb := lxb'
  clear hxb' lxb'
  have hxp := hxp'
  have lxp := lxp'
  clear hxp' lxp'
  have hxr := hxr'
  have lxr := lxr'
  clear hxr' lxr'
  have hxq := hxq'
  have lxq := lxq'
  clear hxq' lxq'
  have hxs := hxs'
  have lxs := lxs'
  clear hxs' lxs'
  have oo := oo'
  clear oo'
  have oc := Ok.refl oo.1
  obtain ⟨xa0, xa1, xa2, xa3⟩ := (id hxa).quad
  obtain ⟨xb0, xb1, xb2, xb3⟩ := (id hxb).quad
  obtain ⟨xp0, xp1, xp2, xp3⟩ := (id hxp).quad
  obtain ⟨xr0, xr1, xr2, xr3⟩ := (id hxr).quad
  obtain ⟨xq0, xq1, xq2, xq3⟩ := (id hxq).quad
  obtain ⟨xs0, xs1, xs2, xs3⟩ := (id hxs).quad
  clear KT1 KT2 KRJ KF1 KRK KF2
  (try clear xr0 xr1 xr2 xr3)
  (try clear hxr lxr)
  (try clear exr)
  (try clear xs0 xs1 xs2 xs3)
  (try clear hxs lxs)
  (try clear exs)
  go_upto_region 15 with (first
      | (go_at_call 19; ((with_reducible refine (KW.out _ _ (oc.step (by go_grown))).mono ?_); rintro e1 w2 ⟨rfl, hk⟩; (try clear oc); have oc := hk; clear hk; (try clear xa0 xa1 xa2 xa3); have cxa := hxa.below lxa oc.2; obtain ⟨xa0, xa1, xa2, xa3⟩ := cxa.quad; clear cxa; (try clear xb0 xb1 xb2 xb3); have cxb := hxb.below lxb oc.2; obtain ⟨xb0, xb1, xb2, xb3⟩ := cxb.quad; clear cxb; (try clear xp0 xp1 xp2 xp3); have cxp := hxp.below lxp oc.2; obtain ⟨xp0, xp1, xp2, xp3⟩ := cxp.quad; clear cxp; (try clear xq0 xq1 xq2 xq3); have cxq := hxq.below lxq oc.2; obtain ⟨xq0, xq1, xq2, xq3⟩ := cxq.quad; clear cxq))
      | (go_at_call 20; ((with_reducible refine (KRW.out _ _ (oc.step (by go_grown))).mono ?_); rintro e1 w2 ⟨rfl, hk⟩; (try clear oc); have oc := hk; clear hk; (try clear xa0 xa1 xa2 xa3); have cxa := hxa.below lxa oc.2; obtain ⟨xa0, xa1, xa2, xa3⟩ := cxa.quad; clear cxa; (try clear xb0 xb1 xb2 xb3); have cxb := hxb.below lxb oc.2; obtain ⟨xb0, xb1, xb2, xb3⟩ := cxb.quad; clear cxb; (try clear xp0 xp1 xp2 xp3); have cxp := hxp.below lxp oc.2; obtain ⟨xp0, xp1, xp2, xp3⟩ := cxp.quad; clear cxp; (try clear xq0 xq1 xq2 xq3); have cxq := hxq.below lxq oc.2; obtain ⟨xq0, xq1, xq2, xq3⟩ := cxq.quad; clear cxq))
      | (go_at_call 21; ((with_reducible refine (KHa.out _ _ (oc.step (by go_grown))).mono ?_); rintro e1 w2 ⟨rfl, hk⟩; (try clear oc); have oc := hk; clear hk; (try clear xa0 xa1 xa2 xa3); have cxa := hxa.below lxa oc.2; obtain ⟨xa0, xa1, xa2, xa3⟩ := cxa.quad; clear cxa; (try clear xb0 xb1 xb2 xb3); have cxb := hxb.below lxb oc.2; obtain ⟨xb0, xb1, xb2, xb3⟩ := cxb.quad; clear cxb; (try clear xp0 xp1 xp2 xp3); have cxp := hxp.below lxp oc.2; obtain ⟨xp0, xp1, xp2, xp3⟩ := cxp.quad; clear cxp; (try clear xq0 xq1 xq2 xq3); have cxq := hxq.below lxq oc.2; obtain ⟨xq0, xq1, xq2, xq3⟩ := cxq.quad; clear cxq))
      | (go_at_call 22; ((with_reducible refine (KRH.out _ _ (oc.step (by go_grown))).mono ?_); rintro e1 w2 ⟨rfl, hk⟩; (try clear oc); have oc := hk; clear hk; (try clear xa0 xa1 xa2 xa3); have cxa := hxa.below lxa oc.2; obtain ⟨xa0, xa1, xa2, xa3⟩ := cxa.quad; clear cxa; (try clear xb0 xb1 xb2 xb3); have cxb := hxb.below lxb oc.2; obtain ⟨xb0, xb1, xb2, xb3⟩ := cxb.quad; clear cxb; (try clear xp0 xp1 xp2 xp3); have cxp := hxp.below lxp oc.2; obtain ⟨xp0, xp1, xp2, xp3⟩ := cxp.quad; clear cxp; (try clear xq0 xq1 xq2 xq3); have cxq := hxq.below lxq oc.2; obtain ⟨xq0, xq1, xq2, xq3⟩ := cxq.quad; clear cxq)))
  generalize w2 = V10 at *
  have ocY := oc
  have hxa' := hxa.below lxa ocY.2
  have lxa' := Nat.lt_of_lt_of_le lxa ocY.2.size
  have hxb' := hxb.below lxb ocY.2
  have lxb' := Nat.lt_of_lt_of_le lxb ocY.2.size
  have hxp' := hxp.below lxp ocY.2
  have lxp' := Nat.lt_of_lt_of_le lxp ocY.2.size
  have hxq' := hxq.below lxq ocY.2
  have lxq' := Nat.lt_of_lt_of_le lxq ocY.2.size
  (try clear xa0 xa1 xa2 xa3 xb0 xb1 xb2 xb3 xp0 xp1 xp2 xp3 xq0 xq1 xq2 xq3)
  have oo' := oo.step ocY.2
  clear ocY oo oc hxa lxa hxb lxb hxp lxp hxq lxq
  have hxa := hxa'
  have lxa := lxa'
  clear hxa' lxa'
  have hxb := hxb'
  have lxb := lxb'
  clear hxb' lxb'
  have hxp := hxp'
  have lxp := lxp'
  clear hxp' lxp'
  have hxq := hxq'
  have lxq := lxq'
  clear hxq' lxq'
  have oo := oo'
  clear oo'
  have oc := Ok.refl oo.1
  obtain ⟨xa0, xa1, xa2, xa3⟩ := (id hxa).quad
  obtain ⟨xb0, xb1, xb2, xb3⟩ := (id hxb).quad
  obtain ⟨xp0, xp1, xp2, xp3⟩ := (id hxp).quad
  obtain ⟨xq0, xq1, xq2, xq3⟩ := (id hxq).quad
  clear KW KRW KRH
  clear ht1 hm1 hz1 hc1 hc2 hcw ep eq
  have hcs : (t = false ∧ m = false ∧ h1 = false) ∨ (t = false ∧ m = false ∧ h1 = true) ∨ (t = true ∧ m = false ∧ h1 = false) ∨ (t = true ∧ m = false ∧ h1 = true) ∨ (t = true ∧ m = true ∧ h1 = false) ∨ (t = true ∧ m = true ∧ h1 = true) := by
    cases t <;> cases m <;> cases h1 <;> simp at htm ⊢
  rcases hcs with ⟨rfl, rfl, rfl⟩ | ⟨rfl, rfl, rfl⟩ | ⟨rfl, rfl, rfl⟩ | ⟨rfl, rfl, rfl⟩ | ⟨rfl, rfl, rfl⟩ | ⟨rfl, rfl, rfl⟩
  · skip
    as_aux_lemma =>
      (try clear xa0 xa1 xa2 xa3 xb0 xb1 xb2 xb3 xp0 xp1 xp2 xp3 xq0 xq1 xq2 xq3)
      have HF := Lib.hid (fun X (h : Ok V10 X) => And.intro (hxa.below lxa h.2).quad (And.intro (hxb.below lxb h.2).quad (And.intro (hxp.below lxp h.2).quad (And.intro (hxq.below lxq h.2).quad (trivial)))))
      refine wp_region_G (S := (Ok V10)) (by kernel_rfl) growsB (oc.step (by go_grown)) ?_
      refine tG (i := 0) (o := ?od101n0) (v := ?vd101n0) growsB ?id101n0 (by kernel_rfl) ?qd101n0 ?yd101n0 ?rd101n0
      case id101n0 => (simp only [gA, gZ]; rfl)
      case qd101n0 => exact fun _ _ _ h => h
      case yd101n0 => exact .inl ⟨by rfl, by (intro w _; go_simp; try with_reducible rfl)⟩
      (try simp only [Act.put, pA, pZ, pS])
      refine tG (i := 1) (o := ?od101n1) (v := ?vd101n1) growsB ?id101n1 (by kernel_rfl) ?qd101n1 ?yd101n1 ?rd101n1
      case id101n1 => (simp only [gA, gS, gZ]; rfl)
      case qd101n1 => exact fun _ _ _ h => h
      case yd101n1 => exact .inl ⟨by rfl, by (intro w _; go_simp; try with_reducible rfl)⟩
      (try simp only [Act.put, pA, pZ, pS])
      refine tG (i := 2) (o := ?od101n2) (v := undef) growsB ?id101n2 (by kernel_rfl) ?qd101n2 ?yd101n2 ?rd101n2
      case id101n2 => (simp only [gA, gS, gZ]; rfl)
      case qd101n2 => exact fun _ _ _ h => h
      case yd101n2 => exact .inr ⟨rfl, rfl⟩
      (try simp only [Act.put, pA, pZ, pS])
      refine tG (i := 3) (o := ?od101n3) (v := undef) growsB ?id101n3 (by kernel_rfl) ?qd101n3 ?yd101n3 ?rd101n3
      case id101n3 => (simp only [gA, gS, gZ]; rfl)
      case qd101n3 => exact fun _ _ _ h => h
      case yd101n3 => exact .inr ⟨rfl, rfl⟩
      (try simp only [Act.put, pA, pZ, pS])
      refine tG (i := 4) (o := ?od101n4) (v := undef) growsB ?id101n4 (by kernel_rfl) ?qd101n4 ?yd101n4 ?rd101n4
      case id101n4 => (simp only [gA, gS, gZ]; rfl)
      case qd101n4 => exact fun _ _ _ h => h
      case yd101n4 => exact .inr ⟨rfl, rfl⟩
      (try simp only [Act.put, pA, pZ, pS])
      refine tG (i := 5) (o := ?od101n5) (v := undef) growsB ?id101n5 (by kernel_rfl) ?qd101n5 ?yd101n5 ?rd101n5
      case id101n5 => (simp only [gA, gS, gZ]; rfl)
      case qd101n5 => exact fun _ _ _ h => h
      case yd101n5 => exact .inr ⟨rfl, rfl⟩
      (try simp only [Act.put, pA, pZ, pS])
      refine tG (i := 6) (o := ?od101n6) (v := undef) growsB ?id101n6 (by kernel_rfl) ?qd101n6 ?yd101n6 ?rd101n6
      case id101n6 => (simp only [gA, gS, gZ]; rfl)
      case qd101n6 => exact fun _ _ _ h => h
      case yd101n6 => exact .inr ⟨rfl, rfl⟩
      (try simp only [Act.put, pA, pZ, pS])
      refine tG (i := 7) (o := ?od101n7) (v := undef) growsB ?id101n7 (by kernel_rfl) ?qd101n7 ?yd101n7 ?rd101n7
      case id101n7 => (simp only [gA, gS, gZ]; rfl)
      case qd101n7 => exact fun _ _ _ h => h
      case yd101n7 => exact .inr ⟨rfl, rfl⟩
      (try simp only [Act.put, pA, pZ, pS])
      refine tG (i := 8) (o := ?od101n8) (v := undef) growsB ?id101n8 (by kernel_rfl) ?qd101n8 ?yd101n8 ?rd101n8
      case id101n8 => (simp only [gA, gS, gZ]; rfl)
      case qd101n8 => exact fun _ _ _ h => h
      case yd101n8 => exact .inr ⟨rfl, rfl⟩
      (try simp only [Act.put, pA, pZ, pS])
      refine tG (i := 9) (o := ?od101n9) (v := undef) growsB ?id101n9 (by kernel_rfl) ?qd101n9 ?yd101n9 ?rd101n9
      case id101n9 => (simp only [gA, gS, gZ]; rfl)
      case qd101n9 => exact fun _ _ _ h => h
      case yd101n9 => exact .inr ⟨rfl, rfl⟩
      (try simp only [Act.put, pA, pZ, pS])
      refine tG (i := 10) (o := ?od101n10) (v := undef) growsB ?id101n10 (by kernel_rfl) ?qd101n10 ?yd101n10 ?rd101n10
      case id101n10 => (simp only [gA, gS, gZ]; rfl)
      case qd101n10 => exact fun _ _ _ h => h
      case yd101n10 => exact .inr ⟨rfl, rfl⟩
      (try simp only [Act.put, pA, pZ, pS])
      refine tG (i := 11) (o := ?od101n11) (v := undef) growsB ?id101n11 (by kernel_rfl) ?qd101n11 ?yd101n11 ?rd101n11
      case id101n11 => (simp only [gA, gS, gZ]; rfl)
      case qd101n11 => exact fun _ _ _ h => h
      case yd101n11 => exact .inr ⟨rfl, rfl⟩
      (try simp only [Act.put, pA, pZ, pS])
      refine tG (i := 12) (o := ?od101n12) (v := undef) growsB ?id101n12 (by kernel_rfl) ?qd101n12 ?yd101n12 ?rd101n12
      case id101n12 => (simp only [gA, gS, gZ]; rfl)
      case qd101n12 => exact fun _ _ _ h => h
      case yd101n12 => exact .inr ⟨rfl, rfl⟩
      (try simp only [Act.put, pA, pZ, pS])
      refine tG (i := 13) (o := ?od101n13) (v := undef) growsB ?id101n13 (by kernel_rfl) ?qd101n13 ?yd101n13 ?rd101n13
      case id101n13 => (simp only [gA, gS, gZ]; rfl)
      case qd101n13 => exact fun _ _ _ h => h
      case yd101n13 => exact .inr ⟨rfl, rfl⟩
      (try simp only [Act.put, pA, pZ, pS])
      refine tG (i := 14) (o := ?od101n14) (v := ?vd101n14) growsB ?id101n14 (by kernel_rfl) ?qd101n14 ?yd101n14 ?rd101n14
      case id101n14 => (simp only [gA, gS, gZ]; rfl)
      case qd101n14 => exact fun _ _ _ h => h
      case yd101n14 => exact .inl ⟨by rfl, by (intro w _; go_simp; try with_reducible rfl)⟩
      (try simp only [Act.put, pA, pZ, pS])
      refine wpAnyG_done (by kernel_rfl) ?_ _
      (try clear hX)
      intro w9 hX hT
      clear HF
      have oc := hX
      clear hX hT
      generalize w9 = V1001 at *
      have ocY := oc
      have hxa' := hxa.below lxa ocY.2
      have lxa' := Nat.lt_of_lt_of_le lxa ocY.2.size
      have hxb' := hxb.below lxb ocY.2
      have lxb' := Nat.lt_of_lt_of_le lxb ocY.2.size
      have hxp' := hxp.below lxp ocY.2
      have lxp' := Nat.lt_of_lt_of_le lxp ocY.2.size
      have hxq' := hxq.below lxq ocY.2
      have lxq' := Nat.lt_of_lt_of_le lxq ocY.2.size
      (try clear xa0 xa1 xa2 xa3 xb0 xb1 xb2 xb3 xp0 xp1 xp2 xp3 xq0 xq1 xq2 xq3)
      have oo' := oo.step ocY.2
      clear ocY oo oc hxa lxa hxb lxb hxp lxp hxq lxq
      have hxa := hxa'
      have lxa := lxa'
      clear hxa' lxa'
      have hxb := hxb'
      have lxb := lxb'
      clear hxb' lxb'
      have hxp := hxp'
      have lxp := lxp'
      clear hxp' lxp'
      have hxq := hxq'
      have lxq := lxq'
      clear hxq' lxq'
      have oo := oo'
      clear oo'
      have oc := Ok.refl oo.1
      obtain ⟨xa0, xa1, xa2, xa3⟩ := (id hxa).quad
      obtain ⟨xb0, xb1, xb2, xb3⟩ := (id hxb).quad
      obtain ⟨xp0, xp1, xp2, xp3⟩ := (id hxp).quad
      obtain ⟨xq0, xq1, xq2, xq3⟩ := (id hxq).quad
      (try clear xp0 xp1 xp2 xp3)
      (try clear hxp lxp)
      (try clear exp)
      go_upto_region 17 with fail
      (try clear xa0 xa1 xa2 xa3 xb0 xb1 xb2 xb3 xq0 xq1 xq2 xq3)
      have HF := Lib.hid (fun X (h : Ok V1001 X) => And.intro (hxa.below lxa h.2).quad (And.intro (hxb.below lxb h.2).quad (And.intro (hxq.below lxq h.2).quad (trivial))))
      refine wp_region_G (S := (Ok V1001)) (by kernel_rfl) growsB (oc.step (by go_grown)) ?_
      refine tG (i := 0) (o := ?od102n0) (v := ?vd102n0) growsB ?id102n0 (by kernel_rfl) ?qd102n0 ?yd102n0 ?rd102n0
      case id102n0 => (simp only [gA, gZ]; rfl)
      case qd102n0 => exact fun _ _ _ h => h
      case yd102n0 => exact .inl ⟨by rfl, by (intro w _; go_simp; try with_reducible rfl)⟩
      (try simp only [Act.put, pA, pZ, pS])
      refine tG (i := 1) (o := ?od102n1) (v := ?vd102n1) growsB ?id102n1 (by kernel_rfl) ?qd102n1 ?yd102n1 ?rd102n1
      case id102n1 => (simp only [gA, gS, gZ]; rfl)
      case qd102n1 => exact fun _ _ _ h => h
      case yd102n1 => exact .inl ⟨by rfl, by (intro w _; go_simp; try with_reducible rfl)⟩
      (try simp only [Act.put, pA, pZ, pS])
      refine tG (i := 2) (o := ?od102n2) (v := ?vd102n2) growsB ?id102n2 (by kernel_rfl) ?qd102n2 ?yd102n2 ?rd102n2
      case id102n2 => (simp only [gA, gS, gZ]; rfl)
      case qd102n2 => exact fun _ _ _ h => h
      case yd102n2 => exact .inl ⟨by rfl, by (intro w _; go_simp; try with_reducible rfl)⟩
      (try simp only [Act.put, pA, pZ, pS])
      refine tG (i := 3) (o := ?od102n3) (v := ?vd102n3) growsB ?id102n3 (by kernel_rfl) ?qd102n3 ?yd102n3 ?rd102n3
      case id102n3 => (simp only [gA, gS, gZ]; rfl)
      case qd102n3 => exact fun _ _ _ h => h
      case yd102n3 => exact .inl ⟨by rfl, by (intro w _; go_simp; try with_reducible rfl)⟩
      (try simp only [Act.put, pA, pZ, pS])
      refine tG (i := 4) (o := ?od102n4) (v := ?vd102n4) growsB ?id102n4 (by kernel_rfl) ?qd102n4 ?yd102n4 ?rd102n4
      case id102n4 => (simp only [gA, gS, gZ]; rfl)
      case qd102n4 => exact fun _ _ _ h => h
      case yd102n4 => exact .inl ⟨by rfl, by (intro w _; go_simp; try with_reducible rfl)⟩
      (try simp only [Act.put, pA, pZ, pS])
      refine tG (i := 5) (o := ?od102n5) (v := undef) growsB ?id102n5 (by kernel_rfl) ?qd102n5 ?yd102n5 ?rd102n5
      case id102n5 => (simp only [gA, gS, gZ]; rfl)
      case qd102n5 => exact fun _ _ _ h => h
      case yd102n5 => exact .inr ⟨rfl, rfl⟩
      (try simp only [Act.put, pA, pZ, pS])
      refine tG (i := 6) (o := ?od102n6) (v := undef) growsB ?id102n6 (by kernel_rfl) ?qd102n6 ?yd102n6 ?rd102n6
      case id102n6 => (simp only [gA, gS, gZ]; rfl)
      case qd102n6 => exact fun _ _ _ h => h
      case yd102n6 => exact .inr ⟨rfl, rfl⟩
      (try simp only [Act.put, pA, pZ, pS])
      refine tG (i := 7) (o := ?od102n7) (v := undef) growsB ?id102n7 (by kernel_rfl) ?qd102n7 ?yd102n7 ?rd102n7
      case id102n7 => (simp only [gA, gS, gZ]; rfl)
      case qd102n7 => exact fun _ _ _ h => h
      case yd102n7 => exact .inr ⟨rfl, rfl⟩
      (try simp only [Act.put, pA, pZ, pS])
      refine tG (i := 8) (o := ?od102n8) (v := ?vd102n8) growsB ?id102n8 (by kernel_rfl) ?qd102n8 ?yd102n8 ?rd102n8
      case id102n8 => (simp only [gA, gS, gZ]; rfl)
      case qd102n8 => exact fun _ _ _ h => h
      case yd102n8 => exact .inl ⟨by rfl, by (intro w _; go_simp; try with_reducible rfl)⟩
      (try simp only [Act.put, pA, pZ, pS])
      refine tG (i := 9) (o := ?od102n9) (v := ?vd102n9) growsB ?id102n9 (by kernel_rfl) ?qd102n9 ?yd102n9 ?rd102n9
      case id102n9 => (simp only [gA, gS, gZ]; rfl)
      case qd102n9 => exact fun _ _ _ h => h
      case yd102n9 => exact .inl ⟨by rfl, by (intro w hSw; obtain ⟨⟨xa0, xa1, xa2, xa3⟩, ⟨xb0, xb1, xb2, xb3⟩, ⟨xq0, xq1, xq2, xq3⟩, -⟩ := HF.out w hSw; go_simp; try with_reducible rfl)⟩
      (try simp only [Act.put, pA, pZ, pS])
      refine tG (i := 10) (o := ?od102n10) (v := ?vd102n10) growsB ?id102n10 (by kernel_rfl) ?qd102n10 ?yd102n10 ?rd102n10
      case id102n10 => (simp only [gA, gS, gZ]; rfl)
      case qd102n10 => exact fun _ _ _ h => h
      case yd102n10 => exact .inl ⟨by rfl, by (intro w _; go_simp; try with_reducible rfl)⟩
      (try simp only [Act.put, pA, pZ, pS])
      refine cG (i := 11) (o := ?od102n11) growsB ?id102n11 (by kernel_rfl) ?qd102n11 ?wd102n11 ?ed102n11 (fun X hX => callO KHa.out hX) ?rd102n11
      case id102n11 => (simp only [gA, gS, gZ]; rfl)
      case qd102n11 => exact fun _ _ _ h => h
      case wd102n11 => rfl
      case ed102n11 => (intro w; go_simp; try with_reducible rfl)
      (try simp only [Act.put, pA, pZ, pS])
      refine tG (i := 12) (o := ?od102n12) (v := ?vd102n12) growsB ?id102n12 (by kernel_rfl) ?qd102n12 ?yd102n12 ?rd102n12
      case id102n12 => (simp only [gA, gS, gZ]; rfl)
      case qd102n12 => exact fun _ _ _ h => h
      case yd102n12 => exact .inl ⟨by rfl, by (intro w _; go_simp; try with_reducible rfl)⟩
      (try simp only [Act.put, pA, pZ, pS])
      refine tG (i := 13) (o := ?od102n13) (v := undef) growsB ?id102n13 (by kernel_rfl) ?qd102n13 ?yd102n13 ?rd102n13
      case id102n13 => (simp only [gA, gS, gZ]; rfl)
      case qd102n13 => exact fun _ _ _ h => h
      case yd102n13 => exact .inr ⟨rfl, rfl⟩
      (try simp only [Act.put, pA, pZ, pS])
      refine tG (i := 14) (o := ?od102n14) (v := undef) growsB ?id102n14 (by kernel_rfl) ?qd102n14 ?yd102n14 ?rd102n14
      case id102n14 => (simp only [gA, gS, gZ]; rfl)
      case qd102n14 => exact fun _ _ _ h => h
      case yd102n14 => exact .inr ⟨rfl, rfl⟩
      (try simp only [Act.put, pA, pZ, pS])
      refine tG (i := 15) (o := ?od102n15) (v := undef) growsB ?id102n15 (by kernel_rfl) ?qd102n15 ?yd102n15 ?rd102n15
      case id102n15 => (simp only [gA, gS, gZ]; rfl)
      case qd102n15 => exact fun _ _ _ h => h
      case yd102n15 => exact .inr ⟨rfl, rfl⟩
      (try simp only [Act.put, pA, pZ, pS])
      refine tG (i := 16) (o := ?od102n16) (v := ?vd102n16) growsB ?id102n16 (by kernel_rfl) ?qd102n16 ?yd102n16 ?rd102n16
      case id102n16 => (simp only [gA, gS, gZ]; rfl)
      case qd102n16 => exact fun _ _ _ h => h
      case yd102n16 => exact .inl ⟨by rfl, by (intro w _; go_simp; try with_reducible rfl)⟩
      (try simp only [Act.put, pA, pZ, pS])
      refine tG (i := 17) (o := ?od102n17) (v := ?vd102n17) growsB ?id102n17 (by kernel_rfl) ?qd102n17 ?yd102n17 ?rd102n17
      case id102n17 => (simp only [gA, gS, gZ]; rfl)
      case qd102n17 => exact fun _ _ _ h => h
      case yd102n17 => exact .inl ⟨by rfl, by (intro w _; go_simp; try with_reducible rfl)⟩
      (try simp only [Act.put, pA, pZ, pS])
      refine tG (i := 18) (o := ?od102n18) (v := ?vd102n18) growsB ?id102n18 (by kernel_rfl) ?qd102n18 ?yd102n18 ?rd102n18
      case id102n18 => (simp only [gA, gS, gZ]; rfl)
      case qd102n18 => exact fun _ _ _ h => h
      case yd102n18 => exact .inl ⟨by rfl, by (intro w _; go_simp; try with_reducible rfl)⟩
      (try simp only [Act.put, pA, pZ, pS])
      refine tG (i := 19) (o := ?od102n19) (v := ?vd102n19) growsB ?id102n19 (by kernel_rfl) ?qd102n19 ?yd102n19 ?rd102n19
      case id102n19 => (simp only [gA, gS, gZ]; rfl)
      case qd102n19 => exact fun _ _ _ h => h
      case yd102n19 => exact .inl ⟨by rfl, by (intro w _; go_simp; try with_reducible rfl)⟩
      (try simp only [Act.put, pA, pZ, pS])
      refine cG (i := 20) (o := ?od102n20) growsB ?id102n20 (by kernel_rfl) ?qd102n20 ?wd102n20 ?ed102n20 (fun X hX => callO KL.out hX) ?rd102n20
      case id102n20 => (simp only [gA, gS, gZ]; rfl)
      case qd102n20 => exact fun _ _ _ h => h
      case wd102n20 => rfl
      case ed102n20 => (intro w; go_simp; try with_reducible rfl)
      (try simp only [Act.put, pA, pZ, pS])
      refine tG (i := 21) (o := ?od102n21) (v := ?vd102n21) growsB ?id102n21 (by kernel_rfl) ?qd102n21 ?yd102n21 ?rd102n21
      case id102n21 => (simp only [gA, gS, gZ]; rfl)
      case qd102n21 => exact fun _ _ _ h => h
      case yd102n21 => exact .inl ⟨by rfl, by (intro w _; go_simp; try with_reducible rfl)⟩
      (try simp only [Act.put, pA, pZ, pS])
      refine tG (i := 22) (o := ?od102n22) (v := ?vd102n22) growsB ?id102n22 (by kernel_rfl) ?qd102n22 ?yd102n22 ?rd102n22
      case id102n22 => (simp only [gA, gS, gZ]; rfl)
      case qd102n22 => exact fun _ _ _ h => h
      case yd102n22 => exact .inl ⟨by rfl, by (intro w _; go_simp; try with_reducible rfl)⟩
      (try simp only [Act.put, pA, pZ, pS])
      refine wpAnyG_done (by kernel_rfl) ?_ _
      (try clear hX)
      intro w9 hX hT
      clear HF
      have oc := hX
      clear hX hT
      generalize w9 = V1002 at *
      have ocY := oc
      have hxa' := hxa.below lxa ocY.2
      have lxa' := Nat.lt_of_lt_of_le lxa ocY.2.size
      have hxb' := hxb.below lxb ocY.2
      have lxb' := Nat.lt_of_lt_of_le lxb ocY.2.size
      have hxq' := hxq.below lxq ocY.2
      have lxq' := Nat.lt_of_lt_of_le lxq ocY.2.size
      (try clear xa0 xa1 xa2 xa3 xb0 xb1 xb2 xb3 xq0 xq1 xq2 xq3)
      have oo' := oo.step ocY.2
      clear ocY oo oc hxa lxa hxb lxb hxq lxq
      have hxa := hxa'
      have lxa := lxa'
      clear hxa' lxa'
      have hxb := hxb'
      have lxb := lxb'
      clear hxb' lxb'
      have hxq := hxq'
      have lxq := lxq'
      clear hxq' lxq'
      have oo := oo'
      clear oo'
      have oc := Ok.refl oo.1
      obtain ⟨xa0, xa1, xa2, xa3⟩ := (id hxa).quad
      obtain ⟨xb0, xb1, xb2, xb3⟩ := (id hxb).quad
      obtain ⟨xq0, xq1, xq2, xq3⟩ := (id hxq).quad
      go_wp2_with fail
      go_ret
      exact ⟨rfl, oo.step oc.2⟩
  · skip
    as_aux_lemma =>
      obtain rfl : h2 = false := hmh rfl rfl
      (try clear xa0 xa1 xa2 xa3 xb0 xb1 xb2 xb3 xp0 xp1 xp2 xp3 xq0 xq1 xq2 xq3)
      have HF := Lib.hid (fun X (h : Ok V10 X) => And.intro (hxa.below lxa h.2).quad (And.intro (hxb.below lxb h.2).quad (And.intro (hxp.below lxp h.2).quad (And.intro (hxq.below lxq h.2).quad (trivial)))))
      refine wp_region_G (S := (Ok V10)) (by kernel_rfl) growsB (oc.step (by go_grown)) ?_
      refine tG (i := 0) (o := ?od201n0) (v := ?vd201n0) growsB ?id201n0 (by kernel_rfl) ?qd201n0 ?yd201n0 ?rd201n0
      case id201n0 => (simp only [gA, gZ]; rfl)
      case qd201n0 => exact fun _ _ _ h => h
      case yd201n0 => exact .inl ⟨by rfl, by (intro w _; go_simp; try with_reducible rfl)⟩
      (try simp only [Act.put, pA, pZ, pS])
      refine tG (i := 1) (o := ?od201n1) (v := ?vd201n1) growsB ?id201n1 (by kernel_rfl) ?qd201n1 ?yd201n1 ?rd201n1
      case id201n1 => (simp only [gA, gS, gZ]; rfl)
      case qd201n1 => exact fun _ _ _ h => h
      case yd201n1 => exact .inl ⟨by rfl, by (intro w _; go_simp; try with_reducible rfl)⟩
      (try simp only [Act.put, pA, pZ, pS])
      refine tG (i := 2) (o := ?od201n2) (v := undef) growsB ?id201n2 (by kernel_rfl) ?qd201n2 ?yd201n2 ?rd201n2
      case id201n2 => (simp only [gA, gS, gZ]; rfl)
      case qd201n2 => exact fun _ _ _ h => h
      case yd201n2 => exact .inr ⟨rfl, rfl⟩
      (try simp only [Act.put, pA, pZ, pS])
      refine tG (i := 3) (o := ?od201n3) (v := undef) growsB ?id201n3 (by kernel_rfl) ?qd201n3 ?yd201n3 ?rd201n3
      case id201n3 => (simp only [gA, gS, gZ]; rfl)
      case qd201n3 => exact fun _ _ _ h => h
      case yd201n3 => exact .inr ⟨rfl, rfl⟩
      (try simp only [Act.put, pA, pZ, pS])
      refine tG (i := 4) (o := ?od201n4) (v := undef) growsB ?id201n4 (by kernel_rfl) ?qd201n4 ?yd201n4 ?rd201n4
      case id201n4 => (simp only [gA, gS, gZ]; rfl)
      case qd201n4 => exact fun _ _ _ h => h
      case yd201n4 => exact .inr ⟨rfl, rfl⟩
      (try simp only [Act.put, pA, pZ, pS])
      refine tG (i := 5) (o := ?od201n5) (v := undef) growsB ?id201n5 (by kernel_rfl) ?qd201n5 ?yd201n5 ?rd201n5
      case id201n5 => (simp only [gA, gS, gZ]; rfl)
      case qd201n5 => exact fun _ _ _ h => h
      case yd201n5 => exact .inr ⟨rfl, rfl⟩
      (try simp only [Act.put, pA, pZ, pS])
      refine tG (i := 6) (o := ?od201n6) (v := undef) growsB ?id201n6 (by kernel_rfl) ?qd201n6 ?yd201n6 ?rd201n6
      case id201n6 => (simp only [gA, gS, gZ]; rfl)
      case qd201n6 => exact fun _ _ _ h => h
      case yd201n6 => exact .inr ⟨rfl, rfl⟩
      (try simp only [Act.put, pA, pZ, pS])
      refine tG (i := 7) (o := ?od201n7) (v := undef) growsB ?id201n7 (by kernel_rfl) ?qd201n7 ?yd201n7 ?rd201n7
      case id201n7 => (simp only [gA, gS, gZ]; rfl)
      case qd201n7 => exact fun _ _ _ h => h
      case yd201n7 => exact .inr ⟨rfl, rfl⟩
      (try simp only [Act.put, pA, pZ, pS])
      refine tG (i := 8) (o := ?od201n8) (v := undef) growsB ?id201n8 (by kernel_rfl) ?qd201n8 ?yd201n8 ?rd201n8
      case id201n8 => (simp only [gA, gS, gZ]; rfl)
      case qd201n8 => exact fun _ _ _ h => h
      case yd201n8 => exact .inr ⟨rfl, rfl⟩
      (try simp only [Act.put, pA, pZ, pS])
      refine tG (i := 9) (o := ?od201n9) (v := undef) growsB ?id201n9 (by kernel_rfl) ?qd201n9 ?yd201n9 ?rd201n9
      case id201n9 => (simp only [gA, gS, gZ]; rfl)
      case qd201n9 => exact fun _ _ _ h => h
      case yd201n9 => exact .inr ⟨rfl, rfl⟩
      (try simp only [Act.put, pA, pZ, pS])
      refine tG (i := 10) (o := ?od201n10) (v := undef) growsB ?id201n10 (by kernel_rfl) ?qd201n10 ?yd201n10 ?rd201n10
      case id201n10 => (simp only [gA, gS, gZ]; rfl)
      case qd201n10 => exact fun _ _ _ h => h
      case yd201n10 => exact .inr ⟨rfl, rfl⟩
      (try simp only [Act.put, pA, pZ, pS])
      refine tG (i := 11) (o := ?od201n11) (v := undef) growsB ?id201n11 (by kernel_rfl) ?qd201n11 ?yd201n11 ?rd201n11
      case id201n11 => (simp only [gA, gS, gZ]; rfl)
      case qd201n11 => exact fun _ _ _ h => h
      case yd201n11 => exact .inr ⟨rfl, rfl⟩
      (try simp only [Act.put, pA, pZ, pS])
      refine tG (i := 12) (o := ?od201n12) (v := undef) growsB ?id201n12 (by kernel_rfl) ?qd201n12 ?yd201n12 ?rd201n12
      case id201n12 => (simp only [gA, gS, gZ]; rfl)
      case qd201n12 => exact fun _ _ _ h => h
      case yd201n12 => exact .inr ⟨rfl, rfl⟩
      (try simp only [Act.put, pA, pZ, pS])
      refine tG (i := 13) (o := ?od201n13) (v := undef) growsB ?id201n13 (by kernel_rfl) ?qd201n13 ?yd201n13 ?rd201n13
      case id201n13 => (simp only [gA, gS, gZ]; rfl)
      case qd201n13 => exact fun _ _ _ h => h
      case yd201n13 => exact .inr ⟨rfl, rfl⟩
      (try simp only [Act.put, pA, pZ, pS])
      refine tG (i := 14) (o := ?od201n14) (v := ?vd201n14) growsB ?id201n14 (by kernel_rfl) ?qd201n14 ?yd201n14 ?rd201n14
      case id201n14 => (simp only [gA, gS, gZ]; rfl)
      case qd201n14 => exact fun _ _ _ h => h
      case yd201n14 => exact .inl ⟨by rfl, by (intro w _; go_simp; try with_reducible rfl)⟩
      (try simp only [Act.put, pA, pZ, pS])
      refine wpAnyG_done (by kernel_rfl) ?_ _
      (try clear hX)
      intro w9 hX hT
      clear HF
      have oc := hX
      clear hX hT
      generalize w9 = V2001 at *
      have ocY := oc
      have hxa' := hxa.below lxa ocY.2
      have lxa' := Nat.lt_of_lt_of_le lxa ocY.2.size
      have hxb' := hxb.below lxb ocY.2
      have lxb' := Nat.lt_of_lt_of_le lxb ocY.2.size
      have hxp' := hxp.below lxp ocY.2
      have lxp' := Nat.lt_of_lt_of_le lxp ocY.2.size
      have hxq' := hxq.below lxq ocY.2
      have lxq' := Nat.lt_of_lt_of_le lxq ocY.2.size
      (try clear xa0 xa1 xa2 xa3 xb0 xb1 xb2 xb3 xp0 xp1 xp2 xp3 xq0 xq1 xq2 xq3)
      have oo' := oo.step ocY.2
      clear ocY oo oc hxa lxa hxb lxb hxp lxp hxq lxq
      have hxa := hxa'
      have lxa := lxa'
      clear hxa' lxa'
      have hxb := hxb'
      have lxb := lxb'
      clear hxb' lxb'
      have hxp := hxp'
      have lxp := lxp'
      clear hxp' lxp'
      have hxq := hxq'
      have lxq := lxq'
      clear hxq' lxq'
      have oo := oo'
      clear oo'
      have oc := Ok.refl oo.1
      obtain ⟨xa0, xa1, xa2, xa3⟩ := (id hxa).quad
      obtain ⟨xb0, xb1, xb2, xb3⟩ := (id hxb).quad
      obtain ⟨xp0, xp1, xp2, xp3⟩ := (id hxp).quad
      obtain ⟨xq0, xq1, xq2, xq3⟩ := (id hxq).quad
      (try clear xp0 xp1 xp2 xp3)
      (try clear hxp lxp)
      (try clear exp)
      go_upto_region 17 with fail
      (try clear xa0 xa1 xa2 xa3 xb0 xb1 xb2 xb3 xq0 xq1 xq2 xq3)
      have HF := Lib.hid (fun X (h : Ok V2001 X) => And.intro (hxa.below lxa h.2).quad (And.intro (hxb.below lxb h.2).quad (And.intro (hxq.below lxq h.2).quad (trivial))))
      refine wp_region_G (S := (Ok V2001)) (by kernel_rfl) growsB (oc.step (by go_grown)) ?_
      refine tG (i := 0) (o := ?od202n0) (v := ?vd202n0) growsB ?id202n0 (by kernel_rfl) ?qd202n0 ?yd202n0 ?rd202n0
      case id202n0 => (simp only [gA, gZ]; rfl)
      case qd202n0 => exact fun _ _ _ h => h
      case yd202n0 => exact .inl ⟨by rfl, by (intro w _; go_simp; try with_reducible rfl)⟩
      (try simp only [Act.put, pA, pZ, pS])
      refine tG (i := 1) (o := ?od202n1) (v := ?vd202n1) growsB ?id202n1 (by kernel_rfl) ?qd202n1 ?yd202n1 ?rd202n1
      case id202n1 => (simp only [gA, gS, gZ]; rfl)
      case qd202n1 => exact fun _ _ _ h => h
      case yd202n1 => exact .inl ⟨by rfl, by (intro w _; go_simp; try with_reducible rfl)⟩
      (try simp only [Act.put, pA, pZ, pS])
      refine tG (i := 2) (o := ?od202n2) (v := ?vd202n2) growsB ?id202n2 (by kernel_rfl) ?qd202n2 ?yd202n2 ?rd202n2
      case id202n2 => (simp only [gA, gS, gZ]; rfl)
      case qd202n2 => exact fun _ _ _ h => h
      case yd202n2 => exact .inl ⟨by rfl, by (intro w _; go_simp; try with_reducible rfl)⟩
      (try simp only [Act.put, pA, pZ, pS])
      refine tG (i := 3) (o := ?od202n3) (v := ?vd202n3) growsB ?id202n3 (by kernel_rfl) ?qd202n3 ?yd202n3 ?rd202n3
      case id202n3 => (simp only [gA, gS, gZ]; rfl)
      case qd202n3 => exact fun _ _ _ h => h
      case yd202n3 => exact .inl ⟨by rfl, by (intro w _; go_simp; try with_reducible rfl)⟩
      (try simp only [Act.put, pA, pZ, pS])
      refine tG (i := 4) (o := ?od202n4) (v := ?vd202n4) growsB ?id202n4 (by kernel_rfl) ?qd202n4 ?yd202n4 ?rd202n4
      case id202n4 => (simp only [gA, gS, gZ]; rfl)
      case qd202n4 => exact fun _ _ _ h => h
      case yd202n4 => exact .inl ⟨by rfl, by (intro w _; go_simp; try with_reducible rfl)⟩
      (try simp only [Act.put, pA, pZ, pS])
      refine tG (i := 5) (o := ?od202n5) (v := undef) growsB ?id202n5 (by kernel_rfl) ?qd202n5 ?yd202n5 ?rd202n5
      case id202n5 => (simp only [gA, gS, gZ]; rfl)
      case qd202n5 => exact fun _ _ _ h => h
      case yd202n5 => exact .inr ⟨rfl, rfl⟩
      (try simp only [Act.put, pA, pZ, pS])
      refine tG (i := 6) (o := ?od202n6) (v := undef) growsB ?id202n6 (by kernel_rfl) ?qd202n6 ?yd202n6 ?rd202n6
      case id202n6 => (simp only [gA, gS, gZ]; rfl)
      case qd202n6 => exact fun _ _ _ h => h
      case yd202n6 => exact .inr ⟨rfl, rfl⟩
      (try simp only [Act.put, pA, pZ, pS])
      refine tG (i := 7) (o := ?od202n7) (v := undef) growsB ?id202n7 (by kernel_rfl) ?qd202n7 ?yd202n7 ?rd202n7
      case id202n7 => (simp only [gA, gS, gZ]; rfl)
      case qd202n7 => exact fun _ _ _ h => h
      case yd202n7 => exact .inr ⟨rfl, rfl⟩
      (try simp only [Act.put, pA, pZ, pS])
      refine tG (i := 8) (o := ?od202n8) (v := ?vd202n8) growsB ?id202n8 (by kernel_rfl) ?qd202n8 ?yd202n8 ?rd202n8
      case id202n8 => (simp only [gA, gS, gZ]; rfl)
      case qd202n8 => exact fun _ _ _ h => h
      case yd202n8 => exact .inl ⟨by rfl, by (intro w _; go_simp; try with_reducible rfl)⟩
      (try simp only [Act.put, pA, pZ, pS])
      refine tG (i := 9) (o := ?od202n9) (v := ?vd202n9) growsB ?id202n9 (by kernel_rfl) ?qd202n9 ?yd202n9 ?rd202n9
      case id202n9 => (simp only [gA, gS, gZ]; rfl)
      case qd202n9 => exact fun _ _ _ h => h
      case yd202n9 => exact .inl ⟨by rfl, by (intro w hSw; obtain ⟨⟨xa0, xa1, xa2, xa3⟩, ⟨xb0, xb1, xb2, xb3⟩, ⟨xq0, xq1, xq2, xq3⟩, -⟩ := HF.out w hSw; go_simp; try with_reducible rfl)⟩
      (try simp only [Act.put, pA, pZ, pS])
      refine tG (i := 10) (o := ?od202n10) (v := ?vd202n10) growsB ?id202n10 (by kernel_rfl) ?qd202n10 ?yd202n10 ?rd202n10
      case id202n10 => (simp only [gA, gS, gZ]; rfl)
      case qd202n10 => exact fun _ _ _ h => h
      case yd202n10 => exact .inl ⟨by rfl, by (intro w _; go_simp; try with_reducible rfl)⟩
      (try simp only [Act.put, pA, pZ, pS])
      refine cG (i := 11) (o := ?od202n11) growsB ?id202n11 (by kernel_rfl) ?qd202n11 ?wd202n11 ?ed202n11 (fun X hX => callO KHa.out hX) ?rd202n11
      case id202n11 => (simp only [gA, gS, gZ]; rfl)
      case qd202n11 => exact fun _ _ _ h => h
      case wd202n11 => rfl
      case ed202n11 => (intro w; go_simp; try with_reducible rfl)
      (try simp only [Act.put, pA, pZ, pS])
      refine tG (i := 12) (o := ?od202n12) (v := ?vd202n12) growsB ?id202n12 (by kernel_rfl) ?qd202n12 ?yd202n12 ?rd202n12
      case id202n12 => (simp only [gA, gS, gZ]; rfl)
      case qd202n12 => exact fun _ _ _ h => h
      case yd202n12 => exact .inl ⟨by rfl, by (intro w _; go_simp; try with_reducible rfl)⟩
      (try simp only [Act.put, pA, pZ, pS])
      refine tG (i := 13) (o := ?od202n13) (v := ?vd202n13) growsB ?id202n13 (by kernel_rfl) ?qd202n13 ?yd202n13 ?rd202n13
      case id202n13 => (simp only [gA, gS, gZ]; rfl)
      case qd202n13 => exact fun _ _ _ h => h
      case yd202n13 => exact .inl ⟨by rfl, by (intro w hSw; obtain ⟨⟨xa0, xa1, xa2, xa3⟩, ⟨xb0, xb1, xb2, xb3⟩, ⟨xq0, xq1, xq2, xq3⟩, -⟩ := HF.out w hSw; go_simp; try with_reducible rfl)⟩
      (try simp only [Act.put, pA, pZ, pS])
      refine tG (i := 14) (o := ?od202n14) (v := ?vd202n14) growsB ?id202n14 (by kernel_rfl) ?qd202n14 ?yd202n14 ?rd202n14
      case id202n14 => (simp only [gA, gS, gZ]; rfl)
      case qd202n14 => exact fun _ _ _ h => h
      case yd202n14 => exact .inl ⟨by rfl, by (intro w _; go_simp; try with_reducible rfl)⟩
      (try simp only [Act.put, pA, pZ, pS])
      refine cG (i := 15) (o := ?od202n15) growsB ?id202n15 (by kernel_rfl) ?qd202n15 ?wd202n15 ?ed202n15 (fun X hX => callO KHb.out hX) ?rd202n15
      case id202n15 => (simp only [gA, gS, gZ]; rfl)
      case qd202n15 => exact fun _ _ _ h => h
      case wd202n15 => rfl
      case ed202n15 => (intro w; go_simp; try with_reducible rfl)
      (try simp only [Act.put, pA, pZ, pS])
      refine tG (i := 16) (o := ?od202n16) (v := ?vd202n16) growsB ?id202n16 (by kernel_rfl) ?qd202n16 ?yd202n16 ?rd202n16
      case id202n16 => (simp only [gA, gS, gZ]; rfl)
      case qd202n16 => exact fun _ _ _ h => h
      case yd202n16 => exact .inl ⟨by rfl, by (intro w _; go_simp; try with_reducible rfl)⟩
      (try simp only [Act.put, pA, pZ, pS])
      refine tG (i := 17) (o := ?od202n17) (v := ?vd202n17) growsB ?id202n17 (by kernel_rfl) ?qd202n17 ?yd202n17 ?rd202n17
      case id202n17 => (simp only [gA, gS, gZ]; rfl)
      case qd202n17 => exact fun _ _ _ h => h
      case yd202n17 => exact .inl ⟨by rfl, by (intro w _; go_simp; try with_reducible rfl)⟩
      (try simp only [Act.put, pA, pZ, pS])
      refine tG (i := 18) (o := ?od202n18) (v := ?vd202n18) growsB ?id202n18 (by kernel_rfl) ?qd202n18 ?yd202n18 ?rd202n18
      case id202n18 => (simp only [gA, gS, gZ]; rfl)
      case qd202n18 => exact fun _ _ _ h => h
      case yd202n18 => exact .inl ⟨by rfl, by (intro w _; go_simp; try with_reducible rfl)⟩
      (try simp only [Act.put, pA, pZ, pS])
      refine tG (i := 19) (o := ?od202n19) (v := ?vd202n19) growsB ?id202n19 (by kernel_rfl) ?qd202n19 ?yd202n19 ?rd202n19
      case id202n19 => (simp only [gA, gS, gZ]; rfl)
      case qd202n19 => exact fun _ _ _ h => h
      case yd202n19 => exact .inl ⟨by rfl, by (intro w _; go_simp; try with_reducible rfl)⟩
      (try simp only [Act.put, pA, pZ, pS])
      refine cG (i := 20) (o := ?od202n20) growsB ?id202n20 (by kernel_rfl) ?qd202n20 ?wd202n20 ?ed202n20 (fun X hX => callO KL.out hX) ?rd202n20
      case id202n20 => (simp only [gA, gS, gZ]; rfl)
      case qd202n20 => exact fun _ _ _ h => h
      case wd202n20 => rfl
      case ed202n20 => (intro w; go_simp; try with_reducible rfl)
      (try simp only [Act.put, pA, pZ, pS])
      refine tG (i := 21) (o := ?od202n21) (v := ?vd202n21) growsB ?id202n21 (by kernel_rfl) ?qd202n21 ?yd202n21 ?rd202n21
      case id202n21 => (simp only [gA, gS, gZ]; rfl)
      case qd202n21 => exact fun _ _ _ h => h
      case yd202n21 => exact .inl ⟨by rfl, by (intro w _; go_simp; try with_reducible rfl)⟩
      (try simp only [Act.put, pA, pZ, pS])
      refine tG (i := 22) (o := ?od202n22) (v := ?vd202n22) growsB ?id202n22 (by kernel_rfl) ?qd202n22 ?yd202n22 ?rd202n22
      case id202n22 => (simp only [gA, gS, gZ]; rfl)
      case qd202n22 => exact fun _ _ _ h => h
      case yd202n22 => exact .inl ⟨by rfl, by (intro w _; go_simp; try with_reducible rfl)⟩
      (try simp only [Act.put, pA, pZ, pS])
      refine wpAnyG_done (by kernel_rfl) ?_ _
      (try clear hX)
      intro w9 hX hT
      clear HF
      have oc := hX
      clear hX hT
      generalize w9 = V2002 at *
      have ocY := oc
      have hxa' := hxa.below lxa ocY.2
      have lxa' := Nat.lt_of_lt_of_le lxa ocY.2.size
      have hxb' := hxb.below lxb ocY.2
      have lxb' := Nat.lt_of_lt_of_le lxb ocY.2.size
      have hxq' := hxq.below lxq ocY.2
      have lxq' := Nat.lt_of_lt_of_le lxq ocY.2.size
      (try clear xa0 xa1 xa2 xa3 xb0 xb1 xb2 xb3 xq0 xq1 xq2 xq3)
      have oo' := oo.step ocY.2
      clear ocY oo oc hxa lxa hxb lxb hxq lxq
      have hxa := hxa'
      have lxa := lxa'
      clear hxa' lxa'
      have hxb := hxb'
      have lxb := lxb'
      clear hxb' lxb'
      have hxq := hxq'
      have lxq := lxq'
      clear hxq' lxq'
      have oo := oo'
      clear oo'
      have oc := Ok.refl oo.1
      obtain ⟨xa0, xa1, xa2, xa3⟩ := (id hxa).quad
      obtain ⟨xb0, xb1, xb2, xb3⟩ := (id hxb).quad
      obtain ⟨xq0, xq1, xq2, xq3⟩ := (id hxq).quad
      go_wp2_with fail
      go_ret
      exact ⟨rfl, oo.step oc.2⟩
  · skip
    as_aux_lemma =>
      have KHp : Hid (∀ B X, Ok B X → Calls Tryz.prog 21 #[U4 p0 p1 p2 p3, .int .i64 n] X fun x w' => x = .returned (.bool h2) ∧ Ok B w') := KHp rfl
      (try clear xa0 xa1 xa2 xa3 xb0 xb1 xb2 xb3 xp0 xp1 xp2 xp3 xq0 xq1 xq2 xq3)
      have HF := Lib.hid (fun X (h : Ok V10 X) => And.intro (hxa.below lxa h.2).quad (And.intro (hxb.below lxb h.2).quad (And.intro (hxp.below lxp h.2).quad (And.intro (hxq.below lxq h.2).quad (trivial)))))
      refine wp_region_G (S := (Ok V10)) (by kernel_rfl) growsB (oc.step (by go_grown)) ?_
      refine tG (i := 0) (o := ?od301n0) (v := ?vd301n0) growsB ?id301n0 (by kernel_rfl) ?qd301n0 ?yd301n0 ?rd301n0
      case id301n0 => (simp only [gA, gZ]; rfl)
      case qd301n0 => exact fun _ _ _ h => h
      case yd301n0 => exact .inl ⟨by rfl, by (intro w _; go_simp; try with_reducible rfl)⟩
      (try simp only [Act.put, pA, pZ, pS])
      refine tG (i := 1) (o := ?od301n1) (v := ?vd301n1) growsB ?id301n1 (by kernel_rfl) ?qd301n1 ?yd301n1 ?rd301n1
      case id301n1 => (simp only [gA, gS, gZ]; rfl)
      case qd301n1 => exact fun _ _ _ h => h
      case yd301n1 => exact .inl ⟨by rfl, by (intro w _; go_simp; try with_reducible rfl)⟩
      (try simp only [Act.put, pA, pZ, pS])
      refine tG (i := 2) (o := ?od301n2) (v := ?vd301n2) growsB ?id301n2 (by kernel_rfl) ?qd301n2 ?yd301n2 ?rd301n2
      case id301n2 => (simp only [gA, gS, gZ]; rfl)
      case qd301n2 => exact fun _ _ _ h => h
      case yd301n2 => exact .inl ⟨by rfl, by (intro w hSw; obtain ⟨⟨xa0, xa1, xa2, xa3⟩, ⟨xb0, xb1, xb2, xb3⟩, ⟨xp0, xp1, xp2, xp3⟩, ⟨xq0, xq1, xq2, xq3⟩, -⟩ := HF.out w hSw; go_simp; try with_reducible rfl)⟩
      (try simp only [Act.put, pA, pZ, pS])
      refine tG (i := 3) (o := ?od301n3) (v := ?vd301n3) growsB ?id301n3 (by kernel_rfl) ?qd301n3 ?yd301n3 ?rd301n3
      case id301n3 => (simp only [gA, gS, gZ]; rfl)
      case qd301n3 => exact fun _ _ _ h => h
      case yd301n3 => exact .inl ⟨by rfl, by (intro w _; go_simp; try with_reducible rfl)⟩
      (try simp only [Act.put, pA, pZ, pS])
      refine cG (i := 4) (o := ?od301n4) growsB ?id301n4 (by kernel_rfl) ?qd301n4 ?wd301n4 ?ed301n4 (fun X hX => callO KHp.out hX) ?rd301n4
      case id301n4 => (simp only [gA, gS, gZ]; rfl)
      case qd301n4 => exact fun _ _ _ h => h
      case wd301n4 => rfl
      case ed301n4 => (intro w; go_simp; try with_reducible rfl)
      (try simp only [Act.put, pA, pZ, pS])
      refine tG (i := 5) (o := ?od301n5) (v := ?vd301n5) growsB ?id301n5 (by kernel_rfl) ?qd301n5 ?yd301n5 ?rd301n5
      case id301n5 => (simp only [gA, gS, gZ]; rfl)
      case qd301n5 => exact fun _ _ _ h => h
      case yd301n5 => exact .inl ⟨by rfl, by (intro w hSw; obtain ⟨⟨xa0, xa1, xa2, xa3⟩, ⟨xb0, xb1, xb2, xb3⟩, ⟨xp0, xp1, xp2, xp3⟩, ⟨xq0, xq1, xq2, xq3⟩, -⟩ := HF.out w hSw; go_simp; try with_reducible rfl)⟩
      (try simp only [Act.put, pA, pZ, pS])
      refine tG (i := 6) (o := ?od301n6) (v := ?vd301n6) growsB ?id301n6 (by kernel_rfl) ?qd301n6 ?yd301n6 ?rd301n6
      case id301n6 => (simp only [gA, gS, gZ]; rfl)
      case qd301n6 => exact fun _ _ _ h => h
      case yd301n6 => exact .inl ⟨by rfl, by (intro w _; go_simp; try with_reducible rfl)⟩
      (try simp only [Act.put, pA, pZ, pS])
      refine cG (i := 7) (o := ?od301n7) growsB ?id301n7 (by kernel_rfl) ?qd301n7 ?wd301n7 ?ed301n7 (fun X hX => callO KHa.out hX) ?rd301n7
      case id301n7 => (simp only [gA, gS, gZ]; rfl)
      case qd301n7 => exact fun _ _ _ h => h
      case wd301n7 => rfl
      case ed301n7 => (intro w; go_simp; try with_reducible rfl)
      (try simp only [Act.put, pA, pZ, pS])
      refine tG (i := 8) (o := ?od301n8) (v := ?vd301n8) growsB ?id301n8 (by kernel_rfl) ?qd301n8 ?yd301n8 ?rd301n8
      case id301n8 => (simp only [gA, gS, gZ]; rfl)
      case qd301n8 => exact fun _ _ _ h => h
      case yd301n8 => exact .inl ⟨by rfl, by (intro w _; go_simp; try with_reducible rfl)⟩
      (try simp only [Act.put, pA, pZ, pS])
      refine tG (i := 9) (o := ?od301n9) (v := ?vd301n9) growsB ?id301n9 (by kernel_rfl) ?qd301n9 ?yd301n9 ?rd301n9
      case id301n9 => (simp only [gA, gS, gZ]; rfl)
      case qd301n9 => exact fun _ _ _ h => h
      case yd301n9 => exact .inl ⟨by rfl, by (intro w hSw; obtain ⟨⟨xa0, xa1, xa2, xa3⟩, ⟨xb0, xb1, xb2, xb3⟩, ⟨xp0, xp1, xp2, xp3⟩, ⟨xq0, xq1, xq2, xq3⟩, -⟩ := HF.out w hSw; go_simp; try with_reducible rfl)⟩
      (try simp only [Act.put, pA, pZ, pS])
      refine tG (i := 10) (o := ?od301n10) (v := ?vd301n10) growsB ?id301n10 (by kernel_rfl) ?qd301n10 ?yd301n10 ?rd301n10
      case id301n10 => (simp only [gA, gS, gZ]; rfl)
      case qd301n10 => exact fun _ _ _ h => h
      case yd301n10 => exact .inl ⟨by rfl, by (intro w _; go_simp; try with_reducible rfl)⟩
      (try simp only [Act.put, pA, pZ, pS])
      refine cG (i := 11) (o := ?od301n11) growsB ?id301n11 (by kernel_rfl) ?qd301n11 ?wd301n11 ?ed301n11 (fun X hX => callO KHb.out hX) ?rd301n11
      case id301n11 => (simp only [gA, gS, gZ]; rfl)
      case qd301n11 => exact fun _ _ _ h => h
      case wd301n11 => rfl
      case ed301n11 => (intro w; go_simp; try with_reducible rfl)
      (try simp only [Act.put, pA, pZ, pS])
      refine tG (i := 12) (o := ?od301n12) (v := ?vd301n12) growsB ?id301n12 (by kernel_rfl) ?qd301n12 ?yd301n12 ?rd301n12
      case id301n12 => (simp only [gA, gS, gZ]; rfl)
      case qd301n12 => exact fun _ _ _ h => h
      case yd301n12 => exact .inl ⟨by rfl, by (intro w _; go_simp; try with_reducible rfl)⟩
      (try simp only [Act.put, pA, pZ, pS])
      refine tG (i := 13) (o := ?od301n13) (v := ?vd301n13) growsB ?id301n13 (by kernel_rfl) ?qd301n13 ?yd301n13 ?rd301n13
      case id301n13 => (simp only [gA, gS, gZ]; rfl)
      case qd301n13 => exact fun _ _ _ h => h
      case yd301n13 => exact .inl ⟨by rfl, by (intro w _; go_simp; try with_reducible rfl)⟩
      (try simp only [Act.put, pA, pZ, pS])
      refine tG (i := 14) (o := ?od301n14) (v := ?vd301n14) growsB ?id301n14 (by kernel_rfl) ?qd301n14 ?yd301n14 ?rd301n14
      case id301n14 => (simp only [gA, gS, gZ]; rfl)
      case qd301n14 => exact fun _ _ _ h => h
      case yd301n14 => exact .inl ⟨by rfl, by (intro w _; go_simp; try with_reducible rfl)⟩
      (try simp only [Act.put, pA, pZ, pS])
      refine wpAnyG_done (by kernel_rfl) ?_ _
      (try clear hX)
      intro w9 hX hT
      clear HF
      have oc := hX
      clear hX hT
      generalize w9 = V3001 at *
      have ocY := oc
      have hxa' := hxa.below lxa ocY.2
      have lxa' := Nat.lt_of_lt_of_le lxa ocY.2.size
      have hxb' := hxb.below lxb ocY.2
      have lxb' := Nat.lt_of_lt_of_le lxb ocY.2.size
      have hxp' := hxp.below lxp ocY.2
      have lxp' := Nat.lt_of_lt_of_le lxp ocY.2.size
      have hxq' := hxq.below lxq ocY.2
      have lxq' := Nat.lt_of_lt_of_le lxq ocY.2.size
      (try clear xa0 xa1 xa2 xa3 xb0 xb1 xb2 xb3 xp0 xp1 xp2 xp3 xq0 xq1 xq2 xq3)
      have oo' := oo.step ocY.2
      clear ocY oo oc hxa lxa hxb lxb hxp lxp hxq lxq
      have hxa := hxa'
      have lxa := lxa'
      clear hxa' lxa'
      have hxb := hxb'
      have lxb := lxb'
      clear hxb' lxb'
      have hxp := hxp'
      have lxp := lxp'
      clear hxp' lxp'
      have hxq := hxq'
      have lxq := lxq'
      clear hxq' lxq'
      have oo := oo'
      clear oo'
      have oc := Ok.refl oo.1
      obtain ⟨xa0, xa1, xa2, xa3⟩ := (id hxa).quad
      obtain ⟨xb0, xb1, xb2, xb3⟩ := (id hxb).quad
      obtain ⟨xp0, xp1, xp2, xp3⟩ := (id hxp).quad
      obtain ⟨xq0, xq1, xq2, xq3⟩ := (id hxq).quad
      (try clear xp0 xp1 xp2 xp3)
      (try clear hxp lxp)
      (try clear exp)
      go_upto_region 17 with fail
      (try clear xa0 xa1 xa2 xa3 xb0 xb1 xb2 xb3 xq0 xq1 xq2 xq3)
      have HF := Lib.hid (fun X (h : Ok V3001 X) => And.intro (hxa.below lxa h.2).quad (And.intro (hxb.below lxb h.2).quad (And.intro (hxq.below lxq h.2).quad (trivial))))
      refine wp_region_G (S := (Ok V3001)) (by kernel_rfl) growsB (oc.step (by go_grown)) ?_
      refine tG (i := 0) (o := ?od302n0) (v := ?vd302n0) growsB ?id302n0 (by kernel_rfl) ?qd302n0 ?yd302n0 ?rd302n0
      case id302n0 => (simp only [gA, gZ]; rfl)
      case qd302n0 => exact fun _ _ _ h => h
      case yd302n0 => exact .inl ⟨by rfl, by (intro w _; go_simp; try with_reducible rfl)⟩
      (try simp only [Act.put, pA, pZ, pS])
      refine tG (i := 1) (o := ?od302n1) (v := ?vd302n1) growsB ?id302n1 (by kernel_rfl) ?qd302n1 ?yd302n1 ?rd302n1
      case id302n1 => (simp only [gA, gS, gZ]; rfl)
      case qd302n1 => exact fun _ _ _ h => h
      case yd302n1 => exact .inl ⟨by rfl, by (intro w _; go_simp; try with_reducible rfl)⟩
      (try simp only [Act.put, pA, pZ, pS])
      refine tG (i := 2) (o := ?od302n2) (v := ?vd302n2) growsB ?id302n2 (by kernel_rfl) ?qd302n2 ?yd302n2 ?rd302n2
      case id302n2 => (simp only [gA, gS, gZ]; rfl)
      case qd302n2 => exact fun _ _ _ h => h
      case yd302n2 => exact .inl ⟨by rfl, by (intro w _; go_simp; try with_reducible rfl)⟩
      (try simp only [Act.put, pA, pZ, pS])
      refine tG (i := 3) (o := ?od302n3) (v := ?vd302n3) growsB ?id302n3 (by kernel_rfl) ?qd302n3 ?yd302n3 ?rd302n3
      case id302n3 => (simp only [gA, gS, gZ]; rfl)
      case qd302n3 => exact fun _ _ _ h => h
      case yd302n3 => exact .inl ⟨by rfl, by (intro w _; go_simp; try with_reducible rfl)⟩
      (try simp only [Act.put, pA, pZ, pS])
      refine tG (i := 4) (o := ?od302n4) (v := ?vd302n4) growsB ?id302n4 (by kernel_rfl) ?qd302n4 ?yd302n4 ?rd302n4
      case id302n4 => (simp only [gA, gS, gZ]; rfl)
      case qd302n4 => exact fun _ _ _ h => h
      case yd302n4 => exact .inl ⟨by rfl, by (intro w _; go_simp; try with_reducible rfl)⟩
      (try simp only [Act.put, pA, pZ, pS])
      refine tG (i := 5) (o := ?od302n5) (v := undef) growsB ?id302n5 (by kernel_rfl) ?qd302n5 ?yd302n5 ?rd302n5
      case id302n5 => (simp only [gA, gS, gZ]; rfl)
      case qd302n5 => exact fun _ _ _ h => h
      case yd302n5 => exact .inr ⟨rfl, rfl⟩
      (try simp only [Act.put, pA, pZ, pS])
      refine tG (i := 6) (o := ?od302n6) (v := undef) growsB ?id302n6 (by kernel_rfl) ?qd302n6 ?yd302n6 ?rd302n6
      case id302n6 => (simp only [gA, gS, gZ]; rfl)
      case qd302n6 => exact fun _ _ _ h => h
      case yd302n6 => exact .inr ⟨rfl, rfl⟩
      (try simp only [Act.put, pA, pZ, pS])
      refine tG (i := 7) (o := ?od302n7) (v := undef) growsB ?id302n7 (by kernel_rfl) ?qd302n7 ?yd302n7 ?rd302n7
      case id302n7 => (simp only [gA, gS, gZ]; rfl)
      case qd302n7 => exact fun _ _ _ h => h
      case yd302n7 => exact .inr ⟨rfl, rfl⟩
      (try simp only [Act.put, pA, pZ, pS])
      refine tG (i := 8) (o := ?od302n8) (v := ?vd302n8) growsB ?id302n8 (by kernel_rfl) ?qd302n8 ?yd302n8 ?rd302n8
      case id302n8 => (simp only [gA, gS, gZ]; rfl)
      case qd302n8 => exact fun _ _ _ h => h
      case yd302n8 => exact .inl ⟨by rfl, by (intro w _; go_simp; try with_reducible rfl)⟩
      (try simp only [Act.put, pA, pZ, pS])
      refine tG (i := 9) (o := ?od302n9) (v := ?vd302n9) growsB ?id302n9 (by kernel_rfl) ?qd302n9 ?yd302n9 ?rd302n9
      case id302n9 => (simp only [gA, gS, gZ]; rfl)
      case qd302n9 => exact fun _ _ _ h => h
      case yd302n9 => exact .inl ⟨by rfl, by (intro w hSw; obtain ⟨⟨xa0, xa1, xa2, xa3⟩, ⟨xb0, xb1, xb2, xb3⟩, ⟨xq0, xq1, xq2, xq3⟩, -⟩ := HF.out w hSw; go_simp; try with_reducible rfl)⟩
      (try simp only [Act.put, pA, pZ, pS])
      refine tG (i := 10) (o := ?od302n10) (v := ?vd302n10) growsB ?id302n10 (by kernel_rfl) ?qd302n10 ?yd302n10 ?rd302n10
      case id302n10 => (simp only [gA, gS, gZ]; rfl)
      case qd302n10 => exact fun _ _ _ h => h
      case yd302n10 => exact .inl ⟨by rfl, by (intro w _; go_simp; try with_reducible rfl)⟩
      (try simp only [Act.put, pA, pZ, pS])
      refine cG (i := 11) (o := ?od302n11) growsB ?id302n11 (by kernel_rfl) ?qd302n11 ?wd302n11 ?ed302n11 (fun X hX => callO KHa.out hX) ?rd302n11
      case id302n11 => (simp only [gA, gS, gZ]; rfl)
      case qd302n11 => exact fun _ _ _ h => h
      case wd302n11 => rfl
      case ed302n11 => (intro w; go_simp; try with_reducible rfl)
      (try simp only [Act.put, pA, pZ, pS])
      refine tG (i := 12) (o := ?od302n12) (v := ?vd302n12) growsB ?id302n12 (by kernel_rfl) ?qd302n12 ?yd302n12 ?rd302n12
      case id302n12 => (simp only [gA, gS, gZ]; rfl)
      case qd302n12 => exact fun _ _ _ h => h
      case yd302n12 => exact .inl ⟨by rfl, by (intro w _; go_simp; try with_reducible rfl)⟩
      (try simp only [Act.put, pA, pZ, pS])
      refine tG (i := 13) (o := ?od302n13) (v := undef) growsB ?id302n13 (by kernel_rfl) ?qd302n13 ?yd302n13 ?rd302n13
      case id302n13 => (simp only [gA, gS, gZ]; rfl)
      case qd302n13 => exact fun _ _ _ h => h
      case yd302n13 => exact .inr ⟨rfl, rfl⟩
      (try simp only [Act.put, pA, pZ, pS])
      refine tG (i := 14) (o := ?od302n14) (v := undef) growsB ?id302n14 (by kernel_rfl) ?qd302n14 ?yd302n14 ?rd302n14
      case id302n14 => (simp only [gA, gS, gZ]; rfl)
      case qd302n14 => exact fun _ _ _ h => h
      case yd302n14 => exact .inr ⟨rfl, rfl⟩
      (try simp only [Act.put, pA, pZ, pS])
      refine tG (i := 15) (o := ?od302n15) (v := undef) growsB ?id302n15 (by kernel_rfl) ?qd302n15 ?yd302n15 ?rd302n15
      case id302n15 => (simp only [gA, gS, gZ]; rfl)
      case qd302n15 => exact fun _ _ _ h => h
      case yd302n15 => exact .inr ⟨rfl, rfl⟩
      (try simp only [Act.put, pA, pZ, pS])
      refine tG (i := 16) (o := ?od302n16) (v := ?vd302n16) growsB ?id302n16 (by kernel_rfl) ?qd302n16 ?yd302n16 ?rd302n16
      case id302n16 => (simp only [gA, gS, gZ]; rfl)
      case qd302n16 => exact fun _ _ _ h => h
      case yd302n16 => exact .inl ⟨by rfl, by (intro w _; go_simp; try with_reducible rfl)⟩
      (try simp only [Act.put, pA, pZ, pS])
      refine tG (i := 17) (o := ?od302n17) (v := ?vd302n17) growsB ?id302n17 (by kernel_rfl) ?qd302n17 ?yd302n17 ?rd302n17
      case id302n17 => (simp only [gA, gS, gZ]; rfl)
      case qd302n17 => exact fun _ _ _ h => h
      case yd302n17 => exact .inl ⟨by rfl, by (intro w _; go_simp; try with_reducible rfl)⟩
      (try simp only [Act.put, pA, pZ, pS])
      refine tG (i := 18) (o := ?od302n18) (v := ?vd302n18) growsB ?id302n18 (by kernel_rfl) ?qd302n18 ?yd302n18 ?rd302n18
      case id302n18 => (simp only [gA, gS, gZ]; rfl)
      case qd302n18 => exact fun _ _ _ h => h
      case yd302n18 => exact .inl ⟨by rfl, by (intro w _; go_simp; try with_reducible rfl)⟩
      (try simp only [Act.put, pA, pZ, pS])
      refine tG (i := 19) (o := ?od302n19) (v := ?vd302n19) growsB ?id302n19 (by kernel_rfl) ?qd302n19 ?yd302n19 ?rd302n19
      case id302n19 => (simp only [gA, gS, gZ]; rfl)
      case qd302n19 => exact fun _ _ _ h => h
      case yd302n19 => exact .inl ⟨by rfl, by (intro w _; go_simp; try with_reducible rfl)⟩
      (try simp only [Act.put, pA, pZ, pS])
      refine cG (i := 20) (o := ?od302n20) growsB ?id302n20 (by kernel_rfl) ?qd302n20 ?wd302n20 ?ed302n20 (fun X hX => callO KL.out hX) ?rd302n20
      case id302n20 => (simp only [gA, gS, gZ]; rfl)
      case qd302n20 => exact fun _ _ _ h => h
      case wd302n20 => rfl
      case ed302n20 => (intro w; go_simp; try with_reducible rfl)
      (try simp only [Act.put, pA, pZ, pS])
      refine tG (i := 21) (o := ?od302n21) (v := ?vd302n21) growsB ?id302n21 (by kernel_rfl) ?qd302n21 ?yd302n21 ?rd302n21
      case id302n21 => (simp only [gA, gS, gZ]; rfl)
      case qd302n21 => exact fun _ _ _ h => h
      case yd302n21 => exact .inl ⟨by rfl, by (intro w _; go_simp; try with_reducible rfl)⟩
      (try simp only [Act.put, pA, pZ, pS])
      refine tG (i := 22) (o := ?od302n22) (v := ?vd302n22) growsB ?id302n22 (by kernel_rfl) ?qd302n22 ?yd302n22 ?rd302n22
      case id302n22 => (simp only [gA, gS, gZ]; rfl)
      case qd302n22 => exact fun _ _ _ h => h
      case yd302n22 => exact .inl ⟨by rfl, by (intro w _; go_simp; try with_reducible rfl)⟩
      (try simp only [Act.put, pA, pZ, pS])
      refine wpAnyG_done (by kernel_rfl) ?_ _
      (try clear hX)
      intro w9 hX hT
      clear HF
      have oc := hX
      clear hX hT
      generalize w9 = V3002 at *
      have ocY := oc
      have hxa' := hxa.below lxa ocY.2
      have lxa' := Nat.lt_of_lt_of_le lxa ocY.2.size
      have hxb' := hxb.below lxb ocY.2
      have lxb' := Nat.lt_of_lt_of_le lxb ocY.2.size
      have hxq' := hxq.below lxq ocY.2
      have lxq' := Nat.lt_of_lt_of_le lxq ocY.2.size
      (try clear xa0 xa1 xa2 xa3 xb0 xb1 xb2 xb3 xq0 xq1 xq2 xq3)
      have oo' := oo.step ocY.2
      clear ocY oo oc hxa lxa hxb lxb hxq lxq
      have hxa := hxa'
      have lxa := lxa'
      clear hxa' lxa'
      have hxb := hxb'
      have lxb := lxb'
      clear hxb' lxb'
      have hxq := hxq'
      have lxq := lxq'
      clear hxq' lxq'
      have oo := oo'
      clear oo'
      have oc := Ok.refl oo.1
      obtain ⟨xa0, xa1, xa2, xa3⟩ := (id hxa).quad
      obtain ⟨xb0, xb1, xb2, xb3⟩ := (id hxb).quad
      obtain ⟨xq0, xq1, xq2, xq3⟩ := (id hxq).quad
      go_wp2_with fail
      go_ret
      exact ⟨rfl, oo.step oc.2⟩
  · skip
    as_aux_lemma =>
      obtain rfl : h2 = false := hmh rfl rfl
      have KHp : Hid (∀ B X, Ok B X → Calls Tryz.prog 21 #[U4 p0 p1 p2 p3, .int .i64 n] X fun x w' => x = .returned (.bool true) ∧ Ok B w') := KHp rfl
      (try clear xa0 xa1 xa2 xa3 xb0 xb1 xb2 xb3 xp0 xp1 xp2 xp3 xq0 xq1 xq2 xq3)
      have HF := Lib.hid (fun X (h : Ok V10 X) => And.intro (hxa.below lxa h.2).quad (And.intro (hxb.below lxb h.2).quad (And.intro (hxp.below lxp h.2).quad (And.intro (hxq.below lxq h.2).quad (trivial)))))
      refine wp_region_G (S := (Ok V10)) (by kernel_rfl) growsB (oc.step (by go_grown)) ?_
      refine tG (i := 0) (o := ?od401n0) (v := ?vd401n0) growsB ?id401n0 (by kernel_rfl) ?qd401n0 ?yd401n0 ?rd401n0
      case id401n0 => (simp only [gA, gZ]; rfl)
      case qd401n0 => exact fun _ _ _ h => h
      case yd401n0 => exact .inl ⟨by rfl, by (intro w _; go_simp; try with_reducible rfl)⟩
      (try simp only [Act.put, pA, pZ, pS])
      refine tG (i := 1) (o := ?od401n1) (v := ?vd401n1) growsB ?id401n1 (by kernel_rfl) ?qd401n1 ?yd401n1 ?rd401n1
      case id401n1 => (simp only [gA, gS, gZ]; rfl)
      case qd401n1 => exact fun _ _ _ h => h
      case yd401n1 => exact .inl ⟨by rfl, by (intro w _; go_simp; try with_reducible rfl)⟩
      (try simp only [Act.put, pA, pZ, pS])
      refine tG (i := 2) (o := ?od401n2) (v := ?vd401n2) growsB ?id401n2 (by kernel_rfl) ?qd401n2 ?yd401n2 ?rd401n2
      case id401n2 => (simp only [gA, gS, gZ]; rfl)
      case qd401n2 => exact fun _ _ _ h => h
      case yd401n2 => exact .inl ⟨by rfl, by (intro w hSw; obtain ⟨⟨xa0, xa1, xa2, xa3⟩, ⟨xb0, xb1, xb2, xb3⟩, ⟨xp0, xp1, xp2, xp3⟩, ⟨xq0, xq1, xq2, xq3⟩, -⟩ := HF.out w hSw; go_simp; try with_reducible rfl)⟩
      (try simp only [Act.put, pA, pZ, pS])
      refine tG (i := 3) (o := ?od401n3) (v := ?vd401n3) growsB ?id401n3 (by kernel_rfl) ?qd401n3 ?yd401n3 ?rd401n3
      case id401n3 => (simp only [gA, gS, gZ]; rfl)
      case qd401n3 => exact fun _ _ _ h => h
      case yd401n3 => exact .inl ⟨by rfl, by (intro w _; go_simp; try with_reducible rfl)⟩
      (try simp only [Act.put, pA, pZ, pS])
      refine cG (i := 4) (o := ?od401n4) growsB ?id401n4 (by kernel_rfl) ?qd401n4 ?wd401n4 ?ed401n4 (fun X hX => callO KHp.out hX) ?rd401n4
      case id401n4 => (simp only [gA, gS, gZ]; rfl)
      case qd401n4 => exact fun _ _ _ h => h
      case wd401n4 => rfl
      case ed401n4 => (intro w; go_simp; try with_reducible rfl)
      (try simp only [Act.put, pA, pZ, pS])
      refine tG (i := 5) (o := ?od401n5) (v := ?vd401n5) growsB ?id401n5 (by kernel_rfl) ?qd401n5 ?yd401n5 ?rd401n5
      case id401n5 => (simp only [gA, gS, gZ]; rfl)
      case qd401n5 => exact fun _ _ _ h => h
      case yd401n5 => exact .inl ⟨by rfl, by (intro w hSw; obtain ⟨⟨xa0, xa1, xa2, xa3⟩, ⟨xb0, xb1, xb2, xb3⟩, ⟨xp0, xp1, xp2, xp3⟩, ⟨xq0, xq1, xq2, xq3⟩, -⟩ := HF.out w hSw; go_simp; try with_reducible rfl)⟩
      (try simp only [Act.put, pA, pZ, pS])
      refine tG (i := 6) (o := ?od401n6) (v := ?vd401n6) growsB ?id401n6 (by kernel_rfl) ?qd401n6 ?yd401n6 ?rd401n6
      case id401n6 => (simp only [gA, gS, gZ]; rfl)
      case qd401n6 => exact fun _ _ _ h => h
      case yd401n6 => exact .inl ⟨by rfl, by (intro w _; go_simp; try with_reducible rfl)⟩
      (try simp only [Act.put, pA, pZ, pS])
      refine cG (i := 7) (o := ?od401n7) growsB ?id401n7 (by kernel_rfl) ?qd401n7 ?wd401n7 ?ed401n7 (fun X hX => callO KHa.out hX) ?rd401n7
      case id401n7 => (simp only [gA, gS, gZ]; rfl)
      case qd401n7 => exact fun _ _ _ h => h
      case wd401n7 => rfl
      case ed401n7 => (intro w; go_simp; try with_reducible rfl)
      (try simp only [Act.put, pA, pZ, pS])
      refine tG (i := 8) (o := ?od401n8) (v := ?vd401n8) growsB ?id401n8 (by kernel_rfl) ?qd401n8 ?yd401n8 ?rd401n8
      case id401n8 => (simp only [gA, gS, gZ]; rfl)
      case qd401n8 => exact fun _ _ _ h => h
      case yd401n8 => exact .inl ⟨by rfl, by (intro w _; go_simp; try with_reducible rfl)⟩
      (try simp only [Act.put, pA, pZ, pS])
      refine tG (i := 9) (o := ?od401n9) (v := undef) growsB ?id401n9 (by kernel_rfl) ?qd401n9 ?yd401n9 ?rd401n9
      case id401n9 => (simp only [gA, gS, gZ]; rfl)
      case qd401n9 => exact fun _ _ _ h => h
      case yd401n9 => exact .inr ⟨rfl, rfl⟩
      (try simp only [Act.put, pA, pZ, pS])
      refine tG (i := 10) (o := ?od401n10) (v := undef) growsB ?id401n10 (by kernel_rfl) ?qd401n10 ?yd401n10 ?rd401n10
      case id401n10 => (simp only [gA, gS, gZ]; rfl)
      case qd401n10 => exact fun _ _ _ h => h
      case yd401n10 => exact .inr ⟨rfl, rfl⟩
      (try simp only [Act.put, pA, pZ, pS])
      refine tG (i := 11) (o := ?od401n11) (v := undef) growsB ?id401n11 (by kernel_rfl) ?qd401n11 ?yd401n11 ?rd401n11
      case id401n11 => (simp only [gA, gS, gZ]; rfl)
      case qd401n11 => exact fun _ _ _ h => h
      case yd401n11 => exact .inr ⟨rfl, rfl⟩
      (try simp only [Act.put, pA, pZ, pS])
      refine tG (i := 12) (o := ?od401n12) (v := ?vd401n12) growsB ?id401n12 (by kernel_rfl) ?qd401n12 ?yd401n12 ?rd401n12
      case id401n12 => (simp only [gA, gS, gZ]; rfl)
      case qd401n12 => exact fun _ _ _ h => h
      case yd401n12 => exact .inl ⟨by rfl, by (intro w _; go_simp; try with_reducible rfl)⟩
      (try simp only [Act.put, pA, pZ, pS])
      refine tG (i := 13) (o := ?od401n13) (v := ?vd401n13) growsB ?id401n13 (by kernel_rfl) ?qd401n13 ?yd401n13 ?rd401n13
      case id401n13 => (simp only [gA, gS, gZ]; rfl)
      case qd401n13 => exact fun _ _ _ h => h
      case yd401n13 => exact .inl ⟨by rfl, by (intro w _; go_simp; try with_reducible rfl)⟩
      (try simp only [Act.put, pA, pZ, pS])
      refine tG (i := 14) (o := ?od401n14) (v := ?vd401n14) growsB ?id401n14 (by kernel_rfl) ?qd401n14 ?yd401n14 ?rd401n14
      case id401n14 => (simp only [gA, gS, gZ]; rfl)
      case qd401n14 => exact fun _ _ _ h => h
      case yd401n14 => exact .inl ⟨by rfl, by (intro w _; go_simp; try with_reducible rfl)⟩
      (try simp only [Act.put, pA, pZ, pS])
      refine wpAnyG_done (by kernel_rfl) ?_ _
      (try clear hX)
      intro w9 hX hT
      clear HF
      have oc := hX
      clear hX hT
      generalize w9 = V4001 at *
      have ocY := oc
      have hxa' := hxa.below lxa ocY.2
      have lxa' := Nat.lt_of_lt_of_le lxa ocY.2.size
      have hxb' := hxb.below lxb ocY.2
      have lxb' := Nat.lt_of_lt_of_le lxb ocY.2.size
      have hxp' := hxp.below lxp ocY.2
      have lxp' := Nat.lt_of_lt_of_le lxp ocY.2.size
      have hxq' := hxq.below lxq ocY.2
      have lxq' := Nat.lt_of_lt_of_le lxq ocY.2.size
      (try clear xa0 xa1 xa2 xa3 xb0 xb1 xb2 xb3 xp0 xp1 xp2 xp3 xq0 xq1 xq2 xq3)
      have oo' := oo.step ocY.2
      clear ocY oo oc hxa lxa hxb lxb hxp lxp hxq lxq
      have hxa := hxa'
      have lxa := lxa'
      clear hxa' lxa'
      have hxb := hxb'
      have lxb := lxb'
      clear hxb' lxb'
      have hxp := hxp'
      have lxp := lxp'
      clear hxp' lxp'
      have hxq := hxq'
      have lxq := lxq'
      clear hxq' lxq'
      have oo := oo'
      clear oo'
      have oc := Ok.refl oo.1
      obtain ⟨xa0, xa1, xa2, xa3⟩ := (id hxa).quad
      obtain ⟨xb0, xb1, xb2, xb3⟩ := (id hxb).quad
      obtain ⟨xp0, xp1, xp2, xp3⟩ := (id hxp).quad
      obtain ⟨xq0, xq1, xq2, xq3⟩ := (id hxq).quad
      (try clear xp0 xp1 xp2 xp3)
      (try clear hxp lxp)
      (try clear exp)
      go_upto_region 17 with fail
      (try clear xa0 xa1 xa2 xa3 xb0 xb1 xb2 xb3 xq0 xq1 xq2 xq3)
      have HF := Lib.hid (fun X (h : Ok V4001 X) => And.intro (hxa.below lxa h.2).quad (And.intro (hxb.below lxb h.2).quad (And.intro (hxq.below lxq h.2).quad (trivial))))
      refine wp_region_G (S := (Ok V4001)) (by kernel_rfl) growsB (oc.step (by go_grown)) ?_
      refine tG (i := 0) (o := ?od402n0) (v := ?vd402n0) growsB ?id402n0 (by kernel_rfl) ?qd402n0 ?yd402n0 ?rd402n0
      case id402n0 => (simp only [gA, gZ]; rfl)
      case qd402n0 => exact fun _ _ _ h => h
      case yd402n0 => exact .inl ⟨by rfl, by (intro w _; go_simp; try with_reducible rfl)⟩
      (try simp only [Act.put, pA, pZ, pS])
      refine tG (i := 1) (o := ?od402n1) (v := ?vd402n1) growsB ?id402n1 (by kernel_rfl) ?qd402n1 ?yd402n1 ?rd402n1
      case id402n1 => (simp only [gA, gS, gZ]; rfl)
      case qd402n1 => exact fun _ _ _ h => h
      case yd402n1 => exact .inl ⟨by rfl, by (intro w _; go_simp; try with_reducible rfl)⟩
      (try simp only [Act.put, pA, pZ, pS])
      refine tG (i := 2) (o := ?od402n2) (v := ?vd402n2) growsB ?id402n2 (by kernel_rfl) ?qd402n2 ?yd402n2 ?rd402n2
      case id402n2 => (simp only [gA, gS, gZ]; rfl)
      case qd402n2 => exact fun _ _ _ h => h
      case yd402n2 => exact .inl ⟨by rfl, by (intro w _; go_simp; try with_reducible rfl)⟩
      (try simp only [Act.put, pA, pZ, pS])
      refine tG (i := 3) (o := ?od402n3) (v := ?vd402n3) growsB ?id402n3 (by kernel_rfl) ?qd402n3 ?yd402n3 ?rd402n3
      case id402n3 => (simp only [gA, gS, gZ]; rfl)
      case qd402n3 => exact fun _ _ _ h => h
      case yd402n3 => exact .inl ⟨by rfl, by (intro w _; go_simp; try with_reducible rfl)⟩
      (try simp only [Act.put, pA, pZ, pS])
      refine tG (i := 4) (o := ?od402n4) (v := ?vd402n4) growsB ?id402n4 (by kernel_rfl) ?qd402n4 ?yd402n4 ?rd402n4
      case id402n4 => (simp only [gA, gS, gZ]; rfl)
      case qd402n4 => exact fun _ _ _ h => h
      case yd402n4 => exact .inl ⟨by rfl, by (intro w _; go_simp; try with_reducible rfl)⟩
      (try simp only [Act.put, pA, pZ, pS])
      refine tG (i := 5) (o := ?od402n5) (v := undef) growsB ?id402n5 (by kernel_rfl) ?qd402n5 ?yd402n5 ?rd402n5
      case id402n5 => (simp only [gA, gS, gZ]; rfl)
      case qd402n5 => exact fun _ _ _ h => h
      case yd402n5 => exact .inr ⟨rfl, rfl⟩
      (try simp only [Act.put, pA, pZ, pS])
      refine tG (i := 6) (o := ?od402n6) (v := undef) growsB ?id402n6 (by kernel_rfl) ?qd402n6 ?yd402n6 ?rd402n6
      case id402n6 => (simp only [gA, gS, gZ]; rfl)
      case qd402n6 => exact fun _ _ _ h => h
      case yd402n6 => exact .inr ⟨rfl, rfl⟩
      (try simp only [Act.put, pA, pZ, pS])
      refine tG (i := 7) (o := ?od402n7) (v := undef) growsB ?id402n7 (by kernel_rfl) ?qd402n7 ?yd402n7 ?rd402n7
      case id402n7 => (simp only [gA, gS, gZ]; rfl)
      case qd402n7 => exact fun _ _ _ h => h
      case yd402n7 => exact .inr ⟨rfl, rfl⟩
      (try simp only [Act.put, pA, pZ, pS])
      refine tG (i := 8) (o := ?od402n8) (v := ?vd402n8) growsB ?id402n8 (by kernel_rfl) ?qd402n8 ?yd402n8 ?rd402n8
      case id402n8 => (simp only [gA, gS, gZ]; rfl)
      case qd402n8 => exact fun _ _ _ h => h
      case yd402n8 => exact .inl ⟨by rfl, by (intro w _; go_simp; try with_reducible rfl)⟩
      (try simp only [Act.put, pA, pZ, pS])
      refine tG (i := 9) (o := ?od402n9) (v := ?vd402n9) growsB ?id402n9 (by kernel_rfl) ?qd402n9 ?yd402n9 ?rd402n9
      case id402n9 => (simp only [gA, gS, gZ]; rfl)
      case qd402n9 => exact fun _ _ _ h => h
      case yd402n9 => exact .inl ⟨by rfl, by (intro w hSw; obtain ⟨⟨xa0, xa1, xa2, xa3⟩, ⟨xb0, xb1, xb2, xb3⟩, ⟨xq0, xq1, xq2, xq3⟩, -⟩ := HF.out w hSw; go_simp; try with_reducible rfl)⟩
      (try simp only [Act.put, pA, pZ, pS])
      refine tG (i := 10) (o := ?od402n10) (v := ?vd402n10) growsB ?id402n10 (by kernel_rfl) ?qd402n10 ?yd402n10 ?rd402n10
      case id402n10 => (simp only [gA, gS, gZ]; rfl)
      case qd402n10 => exact fun _ _ _ h => h
      case yd402n10 => exact .inl ⟨by rfl, by (intro w _; go_simp; try with_reducible rfl)⟩
      (try simp only [Act.put, pA, pZ, pS])
      refine cG (i := 11) (o := ?od402n11) growsB ?id402n11 (by kernel_rfl) ?qd402n11 ?wd402n11 ?ed402n11 (fun X hX => callO KHa.out hX) ?rd402n11
      case id402n11 => (simp only [gA, gS, gZ]; rfl)
      case qd402n11 => exact fun _ _ _ h => h
      case wd402n11 => rfl
      case ed402n11 => (intro w; go_simp; try with_reducible rfl)
      (try simp only [Act.put, pA, pZ, pS])
      refine tG (i := 12) (o := ?od402n12) (v := ?vd402n12) growsB ?id402n12 (by kernel_rfl) ?qd402n12 ?yd402n12 ?rd402n12
      case id402n12 => (simp only [gA, gS, gZ]; rfl)
      case qd402n12 => exact fun _ _ _ h => h
      case yd402n12 => exact .inl ⟨by rfl, by (intro w _; go_simp; try with_reducible rfl)⟩
      (try simp only [Act.put, pA, pZ, pS])
      refine tG (i := 13) (o := ?od402n13) (v := ?vd402n13) growsB ?id402n13 (by kernel_rfl) ?qd402n13 ?yd402n13 ?rd402n13
      case id402n13 => (simp only [gA, gS, gZ]; rfl)
      case qd402n13 => exact fun _ _ _ h => h
      case yd402n13 => exact .inl ⟨by rfl, by (intro w hSw; obtain ⟨⟨xa0, xa1, xa2, xa3⟩, ⟨xb0, xb1, xb2, xb3⟩, ⟨xq0, xq1, xq2, xq3⟩, -⟩ := HF.out w hSw; go_simp; try with_reducible rfl)⟩
      (try simp only [Act.put, pA, pZ, pS])
      refine tG (i := 14) (o := ?od402n14) (v := ?vd402n14) growsB ?id402n14 (by kernel_rfl) ?qd402n14 ?yd402n14 ?rd402n14
      case id402n14 => (simp only [gA, gS, gZ]; rfl)
      case qd402n14 => exact fun _ _ _ h => h
      case yd402n14 => exact .inl ⟨by rfl, by (intro w _; go_simp; try with_reducible rfl)⟩
      (try simp only [Act.put, pA, pZ, pS])
      refine cG (i := 15) (o := ?od402n15) growsB ?id402n15 (by kernel_rfl) ?qd402n15 ?wd402n15 ?ed402n15 (fun X hX => callO KHb.out hX) ?rd402n15
      case id402n15 => (simp only [gA, gS, gZ]; rfl)
      case qd402n15 => exact fun _ _ _ h => h
      case wd402n15 => rfl
      case ed402n15 => (intro w; go_simp; try with_reducible rfl)
      (try simp only [Act.put, pA, pZ, pS])
      refine tG (i := 16) (o := ?od402n16) (v := ?vd402n16) growsB ?id402n16 (by kernel_rfl) ?qd402n16 ?yd402n16 ?rd402n16
      case id402n16 => (simp only [gA, gS, gZ]; rfl)
      case qd402n16 => exact fun _ _ _ h => h
      case yd402n16 => exact .inl ⟨by rfl, by (intro w _; go_simp; try with_reducible rfl)⟩
      (try simp only [Act.put, pA, pZ, pS])
      refine tG (i := 17) (o := ?od402n17) (v := ?vd402n17) growsB ?id402n17 (by kernel_rfl) ?qd402n17 ?yd402n17 ?rd402n17
      case id402n17 => (simp only [gA, gS, gZ]; rfl)
      case qd402n17 => exact fun _ _ _ h => h
      case yd402n17 => exact .inl ⟨by rfl, by (intro w _; go_simp; try with_reducible rfl)⟩
      (try simp only [Act.put, pA, pZ, pS])
      refine tG (i := 18) (o := ?od402n18) (v := ?vd402n18) growsB ?id402n18 (by kernel_rfl) ?qd402n18 ?yd402n18 ?rd402n18
      case id402n18 => (simp only [gA, gS, gZ]; rfl)
      case qd402n18 => exact fun _ _ _ h => h
      case yd402n18 => exact .inl ⟨by rfl, by (intro w _; go_simp; try with_reducible rfl)⟩
      (try simp only [Act.put, pA, pZ, pS])
      refine tG (i := 19) (o := ?od402n19) (v := ?vd402n19) growsB ?id402n19 (by kernel_rfl) ?qd402n19 ?yd402n19 ?rd402n19
      case id402n19 => (simp only [gA, gS, gZ]; rfl)
      case qd402n19 => exact fun _ _ _ h => h
      case yd402n19 => exact .inl ⟨by rfl, by (intro w _; go_simp; try with_reducible rfl)⟩
      (try simp only [Act.put, pA, pZ, pS])
      refine cG (i := 20) (o := ?od402n20) growsB ?id402n20 (by kernel_rfl) ?qd402n20 ?wd402n20 ?ed402n20 (fun X hX => callO KL.out hX) ?rd402n20
      case id402n20 => (simp only [gA, gS, gZ]; rfl)
      case qd402n20 => exact fun _ _ _ h => h
      case wd402n20 => rfl
      case ed402n20 => (intro w; go_simp; try with_reducible rfl)
      (try simp only [Act.put, pA, pZ, pS])
      refine tG (i := 21) (o := ?od402n21) (v := ?vd402n21) growsB ?id402n21 (by kernel_rfl) ?qd402n21 ?yd402n21 ?rd402n21
      case id402n21 => (simp only [gA, gS, gZ]; rfl)
      case qd402n21 => exact fun _ _ _ h => h
      case yd402n21 => exact .inl ⟨by rfl, by (intro w _; go_simp; try with_reducible rfl)⟩
      (try simp only [Act.put, pA, pZ, pS])
      refine tG (i := 22) (o := ?od402n22) (v := ?vd402n22) growsB ?id402n22 (by kernel_rfl) ?qd402n22 ?yd402n22 ?rd402n22
      case id402n22 => (simp only [gA, gS, gZ]; rfl)
      case qd402n22 => exact fun _ _ _ h => h
      case yd402n22 => exact .inl ⟨by rfl, by (intro w _; go_simp; try with_reducible rfl)⟩
      (try simp only [Act.put, pA, pZ, pS])
      refine wpAnyG_done (by kernel_rfl) ?_ _
      (try clear hX)
      intro w9 hX hT
      clear HF
      have oc := hX
      clear hX hT
      generalize w9 = V4002 at *
      have ocY := oc
      have hxa' := hxa.below lxa ocY.2
      have lxa' := Nat.lt_of_lt_of_le lxa ocY.2.size
      have hxb' := hxb.below lxb ocY.2
      have lxb' := Nat.lt_of_lt_of_le lxb ocY.2.size
      have hxq' := hxq.below lxq ocY.2
      have lxq' := Nat.lt_of_lt_of_le lxq ocY.2.size
      (try clear xa0 xa1 xa2 xa3 xb0 xb1 xb2 xb3 xq0 xq1 xq2 xq3)
      have oo' := oo.step ocY.2
      clear ocY oo oc hxa lxa hxb lxb hxq lxq
      have hxa := hxa'
      have lxa := lxa'
      clear hxa' lxa'
      have hxb := hxb'
      have lxb := lxb'
      clear hxb' lxb'
      have hxq := hxq'
      have lxq := lxq'
      clear hxq' lxq'
      have oo := oo'
      clear oo'
      have oc := Ok.refl oo.1
      obtain ⟨xa0, xa1, xa2, xa3⟩ := (id hxa).quad
      obtain ⟨xb0, xb1, xb2, xb3⟩ := (id hxb).quad
      obtain ⟨xq0, xq1, xq2, xq3⟩ := (id hxq).quad
      go_wp2_with fail
      go_ret
      exact ⟨rfl, oo.step oc.2⟩
  · skip
    as_aux_lemma =>
      have KHp : Hid (∀ B X, Ok B X → Calls Tryz.prog 21 #[U4 p0 p1 p2 p3, .int .i64 n] X fun x w' => x = .returned (.bool h2) ∧ Ok B w') := KHp rfl
      have KHq : Hid (∀ B X, Ok B X → Calls Tryz.prog 21 #[U4 q0 q1 q2 q3, .int .i64 n] X fun x w' => x = .returned (.bool false) ∧ Ok B w') := KHq rfl
      (try clear xa0 xa1 xa2 xa3 xb0 xb1 xb2 xb3 xp0 xp1 xp2 xp3 xq0 xq1 xq2 xq3)
      have HF := Lib.hid (fun X (h : Ok V10 X) => And.intro (hxa.below lxa h.2).quad (And.intro (hxb.below lxb h.2).quad (And.intro (hxp.below lxp h.2).quad (And.intro (hxq.below lxq h.2).quad (trivial)))))
      refine wp_region_G (S := (Ok V10)) (by kernel_rfl) growsB (oc.step (by go_grown)) ?_
      refine tG (i := 0) (o := ?od501n0) (v := ?vd501n0) growsB ?id501n0 (by kernel_rfl) ?qd501n0 ?yd501n0 ?rd501n0
      case id501n0 => (simp only [gA, gZ]; rfl)
      case qd501n0 => exact fun _ _ _ h => h
      case yd501n0 => exact .inl ⟨by rfl, by (intro w _; go_simp; try with_reducible rfl)⟩
      (try simp only [Act.put, pA, pZ, pS])
      refine tG (i := 1) (o := ?od501n1) (v := ?vd501n1) growsB ?id501n1 (by kernel_rfl) ?qd501n1 ?yd501n1 ?rd501n1
      case id501n1 => (simp only [gA, gS, gZ]; rfl)
      case qd501n1 => exact fun _ _ _ h => h
      case yd501n1 => exact .inl ⟨by rfl, by (intro w _; go_simp; try with_reducible rfl)⟩
      (try simp only [Act.put, pA, pZ, pS])
      refine tG (i := 2) (o := ?od501n2) (v := ?vd501n2) growsB ?id501n2 (by kernel_rfl) ?qd501n2 ?yd501n2 ?rd501n2
      case id501n2 => (simp only [gA, gS, gZ]; rfl)
      case qd501n2 => exact fun _ _ _ h => h
      case yd501n2 => exact .inl ⟨by rfl, by (intro w hSw; obtain ⟨⟨xa0, xa1, xa2, xa3⟩, ⟨xb0, xb1, xb2, xb3⟩, ⟨xp0, xp1, xp2, xp3⟩, ⟨xq0, xq1, xq2, xq3⟩, -⟩ := HF.out w hSw; go_simp; try with_reducible rfl)⟩
      (try simp only [Act.put, pA, pZ, pS])
      refine tG (i := 3) (o := ?od501n3) (v := ?vd501n3) growsB ?id501n3 (by kernel_rfl) ?qd501n3 ?yd501n3 ?rd501n3
      case id501n3 => (simp only [gA, gS, gZ]; rfl)
      case qd501n3 => exact fun _ _ _ h => h
      case yd501n3 => exact .inl ⟨by rfl, by (intro w _; go_simp; try with_reducible rfl)⟩
      (try simp only [Act.put, pA, pZ, pS])
      refine cG (i := 4) (o := ?od501n4) growsB ?id501n4 (by kernel_rfl) ?qd501n4 ?wd501n4 ?ed501n4 (fun X hX => callO KHp.out hX) ?rd501n4
      case id501n4 => (simp only [gA, gS, gZ]; rfl)
      case qd501n4 => exact fun _ _ _ h => h
      case wd501n4 => rfl
      case ed501n4 => (intro w; go_simp; try with_reducible rfl)
      (try simp only [Act.put, pA, pZ, pS])
      refine tG (i := 5) (o := ?od501n5) (v := ?vd501n5) growsB ?id501n5 (by kernel_rfl) ?qd501n5 ?yd501n5 ?rd501n5
      case id501n5 => (simp only [gA, gS, gZ]; rfl)
      case qd501n5 => exact fun _ _ _ h => h
      case yd501n5 => exact .inl ⟨by rfl, by (intro w hSw; obtain ⟨⟨xa0, xa1, xa2, xa3⟩, ⟨xb0, xb1, xb2, xb3⟩, ⟨xp0, xp1, xp2, xp3⟩, ⟨xq0, xq1, xq2, xq3⟩, -⟩ := HF.out w hSw; go_simp; try with_reducible rfl)⟩
      (try simp only [Act.put, pA, pZ, pS])
      refine tG (i := 6) (o := ?od501n6) (v := ?vd501n6) growsB ?id501n6 (by kernel_rfl) ?qd501n6 ?yd501n6 ?rd501n6
      case id501n6 => (simp only [gA, gS, gZ]; rfl)
      case qd501n6 => exact fun _ _ _ h => h
      case yd501n6 => exact .inl ⟨by rfl, by (intro w _; go_simp; try with_reducible rfl)⟩
      (try simp only [Act.put, pA, pZ, pS])
      refine cG (i := 7) (o := ?od501n7) growsB ?id501n7 (by kernel_rfl) ?qd501n7 ?wd501n7 ?ed501n7 (fun X hX => callO KHa.out hX) ?rd501n7
      case id501n7 => (simp only [gA, gS, gZ]; rfl)
      case qd501n7 => exact fun _ _ _ h => h
      case wd501n7 => rfl
      case ed501n7 => (intro w; go_simp; try with_reducible rfl)
      (try simp only [Act.put, pA, pZ, pS])
      refine tG (i := 8) (o := ?od501n8) (v := ?vd501n8) growsB ?id501n8 (by kernel_rfl) ?qd501n8 ?yd501n8 ?rd501n8
      case id501n8 => (simp only [gA, gS, gZ]; rfl)
      case qd501n8 => exact fun _ _ _ h => h
      case yd501n8 => exact .inl ⟨by rfl, by (intro w _; go_simp; try with_reducible rfl)⟩
      (try simp only [Act.put, pA, pZ, pS])
      refine tG (i := 9) (o := ?od501n9) (v := ?vd501n9) growsB ?id501n9 (by kernel_rfl) ?qd501n9 ?yd501n9 ?rd501n9
      case id501n9 => (simp only [gA, gS, gZ]; rfl)
      case qd501n9 => exact fun _ _ _ h => h
      case yd501n9 => exact .inl ⟨by rfl, by (intro w hSw; obtain ⟨⟨xa0, xa1, xa2, xa3⟩, ⟨xb0, xb1, xb2, xb3⟩, ⟨xp0, xp1, xp2, xp3⟩, ⟨xq0, xq1, xq2, xq3⟩, -⟩ := HF.out w hSw; go_simp; try with_reducible rfl)⟩
      (try simp only [Act.put, pA, pZ, pS])
      refine tG (i := 10) (o := ?od501n10) (v := ?vd501n10) growsB ?id501n10 (by kernel_rfl) ?qd501n10 ?yd501n10 ?rd501n10
      case id501n10 => (simp only [gA, gS, gZ]; rfl)
      case qd501n10 => exact fun _ _ _ h => h
      case yd501n10 => exact .inl ⟨by rfl, by (intro w _; go_simp; try with_reducible rfl)⟩
      (try simp only [Act.put, pA, pZ, pS])
      refine cG (i := 11) (o := ?od501n11) growsB ?id501n11 (by kernel_rfl) ?qd501n11 ?wd501n11 ?ed501n11 (fun X hX => callO KHb.out hX) ?rd501n11
      case id501n11 => (simp only [gA, gS, gZ]; rfl)
      case qd501n11 => exact fun _ _ _ h => h
      case wd501n11 => rfl
      case ed501n11 => (intro w; go_simp; try with_reducible rfl)
      (try simp only [Act.put, pA, pZ, pS])
      refine tG (i := 12) (o := ?od501n12) (v := ?vd501n12) growsB ?id501n12 (by kernel_rfl) ?qd501n12 ?yd501n12 ?rd501n12
      case id501n12 => (simp only [gA, gS, gZ]; rfl)
      case qd501n12 => exact fun _ _ _ h => h
      case yd501n12 => exact .inl ⟨by rfl, by (intro w _; go_simp; try with_reducible rfl)⟩
      (try simp only [Act.put, pA, pZ, pS])
      refine tG (i := 13) (o := ?od501n13) (v := ?vd501n13) growsB ?id501n13 (by kernel_rfl) ?qd501n13 ?yd501n13 ?rd501n13
      case id501n13 => (simp only [gA, gS, gZ]; rfl)
      case qd501n13 => exact fun _ _ _ h => h
      case yd501n13 => exact .inl ⟨by rfl, by (intro w _; go_simp; try with_reducible rfl)⟩
      (try simp only [Act.put, pA, pZ, pS])
      refine tG (i := 14) (o := ?od501n14) (v := ?vd501n14) growsB ?id501n14 (by kernel_rfl) ?qd501n14 ?yd501n14 ?rd501n14
      case id501n14 => (simp only [gA, gS, gZ]; rfl)
      case qd501n14 => exact fun _ _ _ h => h
      case yd501n14 => exact .inl ⟨by rfl, by (intro w _; go_simp; try with_reducible rfl)⟩
      (try simp only [Act.put, pA, pZ, pS])
      refine wpAnyG_done (by kernel_rfl) ?_ _
      (try clear hX)
      intro w9 hX hT
      clear HF
      have oc := hX
      clear hX hT
      generalize w9 = V5001 at *
      have ocY := oc
      have hxa' := hxa.below lxa ocY.2
      have lxa' := Nat.lt_of_lt_of_le lxa ocY.2.size
      have hxb' := hxb.below lxb ocY.2
      have lxb' := Nat.lt_of_lt_of_le lxb ocY.2.size
      have hxp' := hxp.below lxp ocY.2
      have lxp' := Nat.lt_of_lt_of_le lxp ocY.2.size
      have hxq' := hxq.below lxq ocY.2
      have lxq' := Nat.lt_of_lt_of_le lxq ocY.2.size
      (try clear xa0 xa1 xa2 xa3 xb0 xb1 xb2 xb3 xp0 xp1 xp2 xp3 xq0 xq1 xq2 xq3)
      have oo' := oo.step ocY.2
      clear ocY oo oc hxa lxa hxb lxb hxp lxp hxq lxq
      have hxa := hxa'
      have lxa := lxa'
      clear hxa' lxa'
      have hxb := hxb'
      have lxb := lxb'
      clear hxb' lxb'
      have hxp := hxp'
      have lxp := lxp'
      clear hxp' lxp'
      have hxq := hxq'
      have lxq := lxq'
      clear hxq' lxq'
      have oo := oo'
      clear oo'
      have oc := Ok.refl oo.1
      obtain ⟨xa0, xa1, xa2, xa3⟩ := (id hxa).quad
      obtain ⟨xb0, xb1, xb2, xb3⟩ := (id hxb).quad
      obtain ⟨xp0, xp1, xp2, xp3⟩ := (id hxp).quad
      obtain ⟨xq0, xq1, xq2, xq3⟩ := (id hxq).quad
      (try clear xp0 xp1 xp2 xp3)
      (try clear hxp lxp)
      (try clear exp)
      go_upto_region 17 with fail
      (try clear xa0 xa1 xa2 xa3 xb0 xb1 xb2 xb3 xq0 xq1 xq2 xq3)
      have HF := Lib.hid (fun X (h : Ok V5001 X) => And.intro (hxa.below lxa h.2).quad (And.intro (hxb.below lxb h.2).quad (And.intro (hxq.below lxq h.2).quad (trivial))))
      refine wp_region_G (S := (Ok V5001)) (by kernel_rfl) growsB (oc.step (by go_grown)) ?_
      refine tG (i := 0) (o := ?od502n0) (v := ?vd502n0) growsB ?id502n0 (by kernel_rfl) ?qd502n0 ?yd502n0 ?rd502n0
      case id502n0 => (simp only [gA, gZ]; rfl)
      case qd502n0 => exact fun _ _ _ h => h
      case yd502n0 => exact .inl ⟨by rfl, by (intro w _; go_simp; try with_reducible rfl)⟩
      (try simp only [Act.put, pA, pZ, pS])
      refine tG (i := 1) (o := ?od502n1) (v := ?vd502n1) growsB ?id502n1 (by kernel_rfl) ?qd502n1 ?yd502n1 ?rd502n1
      case id502n1 => (simp only [gA, gS, gZ]; rfl)
      case qd502n1 => exact fun _ _ _ h => h
      case yd502n1 => exact .inl ⟨by rfl, by (intro w _; go_simp; try with_reducible rfl)⟩
      (try simp only [Act.put, pA, pZ, pS])
      refine tG (i := 2) (o := ?od502n2) (v := ?vd502n2) growsB ?id502n2 (by kernel_rfl) ?qd502n2 ?yd502n2 ?rd502n2
      case id502n2 => (simp only [gA, gS, gZ]; rfl)
      case qd502n2 => exact fun _ _ _ h => h
      case yd502n2 => exact .inl ⟨by rfl, by (intro w _; go_simp; try with_reducible rfl)⟩
      (try simp only [Act.put, pA, pZ, pS])
      refine tG (i := 3) (o := ?od502n3) (v := ?vd502n3) growsB ?id502n3 (by kernel_rfl) ?qd502n3 ?yd502n3 ?rd502n3
      case id502n3 => (simp only [gA, gS, gZ]; rfl)
      case qd502n3 => exact fun _ _ _ h => h
      case yd502n3 => exact .inl ⟨by rfl, by (intro w _; go_simp; try with_reducible rfl)⟩
      (try simp only [Act.put, pA, pZ, pS])
      refine tG (i := 4) (o := ?od502n4) (v := ?vd502n4) growsB ?id502n4 (by kernel_rfl) ?qd502n4 ?yd502n4 ?rd502n4
      case id502n4 => (simp only [gA, gS, gZ]; rfl)
      case qd502n4 => exact fun _ _ _ h => h
      case yd502n4 => exact .inl ⟨by rfl, by (intro w _; go_simp; try with_reducible rfl)⟩
      (try simp only [Act.put, pA, pZ, pS])
      refine tG (i := 5) (o := ?od502n5) (v := ?vd502n5) growsB ?id502n5 (by kernel_rfl) ?qd502n5 ?yd502n5 ?rd502n5
      case id502n5 => (simp only [gA, gS, gZ]; rfl)
      case qd502n5 => exact fun _ _ _ h => h
      case yd502n5 => exact .inl ⟨by rfl, by (intro w hSw; obtain ⟨⟨xa0, xa1, xa2, xa3⟩, ⟨xb0, xb1, xb2, xb3⟩, ⟨xq0, xq1, xq2, xq3⟩, -⟩ := HF.out w hSw; go_simp; try with_reducible rfl)⟩
      (try simp only [Act.put, pA, pZ, pS])
      refine tG (i := 6) (o := ?od502n6) (v := ?vd502n6) growsB ?id502n6 (by kernel_rfl) ?qd502n6 ?yd502n6 ?rd502n6
      case id502n6 => (simp only [gA, gS, gZ]; rfl)
      case qd502n6 => exact fun _ _ _ h => h
      case yd502n6 => exact .inl ⟨by rfl, by (intro w _; go_simp; try with_reducible rfl)⟩
      (try simp only [Act.put, pA, pZ, pS])
      refine cG (i := 7) (o := ?od502n7) growsB ?id502n7 (by kernel_rfl) ?qd502n7 ?wd502n7 ?ed502n7 (fun X hX => callO KHq.out hX) ?rd502n7
      case id502n7 => (simp only [gA, gS, gZ]; rfl)
      case qd502n7 => exact fun _ _ _ h => h
      case wd502n7 => rfl
      case ed502n7 => (intro w; go_simp; try with_reducible rfl)
      (try simp only [Act.put, pA, pZ, pS])
      refine tG (i := 8) (o := ?od502n8) (v := ?vd502n8) growsB ?id502n8 (by kernel_rfl) ?qd502n8 ?yd502n8 ?rd502n8
      case id502n8 => (simp only [gA, gS, gZ]; rfl)
      case qd502n8 => exact fun _ _ _ h => h
      case yd502n8 => exact .inl ⟨by rfl, by (intro w _; go_simp; try with_reducible rfl)⟩
      (try simp only [Act.put, pA, pZ, pS])
      refine tG (i := 9) (o := ?od502n9) (v := ?vd502n9) growsB ?id502n9 (by kernel_rfl) ?qd502n9 ?yd502n9 ?rd502n9
      case id502n9 => (simp only [gA, gS, gZ]; rfl)
      case qd502n9 => exact fun _ _ _ h => h
      case yd502n9 => exact .inl ⟨by rfl, by (intro w hSw; obtain ⟨⟨xa0, xa1, xa2, xa3⟩, ⟨xb0, xb1, xb2, xb3⟩, ⟨xq0, xq1, xq2, xq3⟩, -⟩ := HF.out w hSw; go_simp; try with_reducible rfl)⟩
      (try simp only [Act.put, pA, pZ, pS])
      refine tG (i := 10) (o := ?od502n10) (v := ?vd502n10) growsB ?id502n10 (by kernel_rfl) ?qd502n10 ?yd502n10 ?rd502n10
      case id502n10 => (simp only [gA, gS, gZ]; rfl)
      case qd502n10 => exact fun _ _ _ h => h
      case yd502n10 => exact .inl ⟨by rfl, by (intro w _; go_simp; try with_reducible rfl)⟩
      (try simp only [Act.put, pA, pZ, pS])
      refine cG (i := 11) (o := ?od502n11) growsB ?id502n11 (by kernel_rfl) ?qd502n11 ?wd502n11 ?ed502n11 (fun X hX => callO KHa.out hX) ?rd502n11
      case id502n11 => (simp only [gA, gS, gZ]; rfl)
      case qd502n11 => exact fun _ _ _ h => h
      case wd502n11 => rfl
      case ed502n11 => (intro w; go_simp; try with_reducible rfl)
      (try simp only [Act.put, pA, pZ, pS])
      refine tG (i := 12) (o := ?od502n12) (v := ?vd502n12) growsB ?id502n12 (by kernel_rfl) ?qd502n12 ?yd502n12 ?rd502n12
      case id502n12 => (simp only [gA, gS, gZ]; rfl)
      case qd502n12 => exact fun _ _ _ h => h
      case yd502n12 => exact .inl ⟨by rfl, by (intro w _; go_simp; try with_reducible rfl)⟩
      (try simp only [Act.put, pA, pZ, pS])
      refine tG (i := 13) (o := ?od502n13) (v := undef) growsB ?id502n13 (by kernel_rfl) ?qd502n13 ?yd502n13 ?rd502n13
      case id502n13 => (simp only [gA, gS, gZ]; rfl)
      case qd502n13 => exact fun _ _ _ h => h
      case yd502n13 => exact .inr ⟨rfl, rfl⟩
      (try simp only [Act.put, pA, pZ, pS])
      refine tG (i := 14) (o := ?od502n14) (v := undef) growsB ?id502n14 (by kernel_rfl) ?qd502n14 ?yd502n14 ?rd502n14
      case id502n14 => (simp only [gA, gS, gZ]; rfl)
      case qd502n14 => exact fun _ _ _ h => h
      case yd502n14 => exact .inr ⟨rfl, rfl⟩
      (try simp only [Act.put, pA, pZ, pS])
      refine tG (i := 15) (o := ?od502n15) (v := undef) growsB ?id502n15 (by kernel_rfl) ?qd502n15 ?yd502n15 ?rd502n15
      case id502n15 => (simp only [gA, gS, gZ]; rfl)
      case qd502n15 => exact fun _ _ _ h => h
      case yd502n15 => exact .inr ⟨rfl, rfl⟩
      (try simp only [Act.put, pA, pZ, pS])
      refine tG (i := 16) (o := ?od502n16) (v := ?vd502n16) growsB ?id502n16 (by kernel_rfl) ?qd502n16 ?yd502n16 ?rd502n16
      case id502n16 => (simp only [gA, gS, gZ]; rfl)
      case qd502n16 => exact fun _ _ _ h => h
      case yd502n16 => exact .inl ⟨by rfl, by (intro w _; go_simp; try with_reducible rfl)⟩
      (try simp only [Act.put, pA, pZ, pS])
      refine tG (i := 17) (o := ?od502n17) (v := ?vd502n17) growsB ?id502n17 (by kernel_rfl) ?qd502n17 ?yd502n17 ?rd502n17
      case id502n17 => (simp only [gA, gS, gZ]; rfl)
      case qd502n17 => exact fun _ _ _ h => h
      case yd502n17 => exact .inl ⟨by rfl, by (intro w _; go_simp; try with_reducible rfl)⟩
      (try simp only [Act.put, pA, pZ, pS])
      refine tG (i := 18) (o := ?od502n18) (v := ?vd502n18) growsB ?id502n18 (by kernel_rfl) ?qd502n18 ?yd502n18 ?rd502n18
      case id502n18 => (simp only [gA, gS, gZ]; rfl)
      case qd502n18 => exact fun _ _ _ h => h
      case yd502n18 => exact .inl ⟨by rfl, by (intro w _; go_simp; try with_reducible rfl)⟩
      (try simp only [Act.put, pA, pZ, pS])
      refine tG (i := 19) (o := ?od502n19) (v := ?vd502n19) growsB ?id502n19 (by kernel_rfl) ?qd502n19 ?yd502n19 ?rd502n19
      case id502n19 => (simp only [gA, gS, gZ]; rfl)
      case qd502n19 => exact fun _ _ _ h => h
      case yd502n19 => exact .inl ⟨by rfl, by (intro w _; go_simp; try with_reducible rfl)⟩
      (try simp only [Act.put, pA, pZ, pS])
      refine cG (i := 20) (o := ?od502n20) growsB ?id502n20 (by kernel_rfl) ?qd502n20 ?wd502n20 ?ed502n20 (fun X hX => callO KL.out hX) ?rd502n20
      case id502n20 => (simp only [gA, gS, gZ]; rfl)
      case qd502n20 => exact fun _ _ _ h => h
      case wd502n20 => rfl
      case ed502n20 => (intro w; go_simp; try with_reducible rfl)
      (try simp only [Act.put, pA, pZ, pS])
      refine tG (i := 21) (o := ?od502n21) (v := ?vd502n21) growsB ?id502n21 (by kernel_rfl) ?qd502n21 ?yd502n21 ?rd502n21
      case id502n21 => (simp only [gA, gS, gZ]; rfl)
      case qd502n21 => exact fun _ _ _ h => h
      case yd502n21 => exact .inl ⟨by rfl, by (intro w _; go_simp; try with_reducible rfl)⟩
      (try simp only [Act.put, pA, pZ, pS])
      refine tG (i := 22) (o := ?od502n22) (v := ?vd502n22) growsB ?id502n22 (by kernel_rfl) ?qd502n22 ?yd502n22 ?rd502n22
      case id502n22 => (simp only [gA, gS, gZ]; rfl)
      case qd502n22 => exact fun _ _ _ h => h
      case yd502n22 => exact .inl ⟨by rfl, by (intro w _; go_simp; try with_reducible rfl)⟩
      (try simp only [Act.put, pA, pZ, pS])
      refine wpAnyG_done (by kernel_rfl) ?_ _
      (try clear hX)
      intro w9 hX hT
      clear HF
      have oc := hX
      clear hX hT
      generalize w9 = V5002 at *
      have ocY := oc
      have hxa' := hxa.below lxa ocY.2
      have lxa' := Nat.lt_of_lt_of_le lxa ocY.2.size
      have hxb' := hxb.below lxb ocY.2
      have lxb' := Nat.lt_of_lt_of_le lxb ocY.2.size
      have hxq' := hxq.below lxq ocY.2
      have lxq' := Nat.lt_of_lt_of_le lxq ocY.2.size
      (try clear xa0 xa1 xa2 xa3 xb0 xb1 xb2 xb3 xq0 xq1 xq2 xq3)
      have oo' := oo.step ocY.2
      clear ocY oo oc hxa lxa hxb lxb hxq lxq
      have hxa := hxa'
      have lxa := lxa'
      clear hxa' lxa'
      have hxb := hxb'
      have lxb := lxb'
      clear hxb' lxb'
      have hxq := hxq'
      have lxq := lxq'
      clear hxq' lxq'
      have oo := oo'
      clear oo'
      have oc := Ok.refl oo.1
      obtain ⟨xa0, xa1, xa2, xa3⟩ := (id hxa).quad
      obtain ⟨xb0, xb1, xb2, xb3⟩ := (id hxb).quad
      obtain ⟨xq0, xq1, xq2, xq3⟩ := (id hxq).quad
      go_wp2_with fail
      go_ret
      exact ⟨rfl, oo.step oc.2⟩
  · skip
    as_aux_lemma =>
      have KHp : Hid (∀ B X, Ok B X → Calls Tryz.prog 21 #[U4 p0 p1 p2 p3, .int .i64 n] X fun x w' => x = .returned (.bool true) ∧ Ok B w') := KHp rfl
      have KHq : Hid (∀ B X, Ok B X → Calls Tryz.prog 21 #[U4 q0 q1 q2 q3, .int .i64 n] X fun x w' => x = .returned (.bool h2) ∧ Ok B w') := KHq rfl
      (try clear xa0 xa1 xa2 xa3 xb0 xb1 xb2 xb3 xp0 xp1 xp2 xp3 xq0 xq1 xq2 xq3)
      have HF := Lib.hid (fun X (h : Ok V10 X) => And.intro (hxa.below lxa h.2).quad (And.intro (hxb.below lxb h.2).quad (And.intro (hxp.below lxp h.2).quad (And.intro (hxq.below lxq h.2).quad (trivial)))))
      refine wp_region_G (S := (Ok V10)) (by kernel_rfl) growsB (oc.step (by go_grown)) ?_
      refine tG (i := 0) (o := ?od601n0) (v := ?vd601n0) growsB ?id601n0 (by kernel_rfl) ?qd601n0 ?yd601n0 ?rd601n0
      case id601n0 => (simp only [gA, gZ]; rfl)
      case qd601n0 => exact fun _ _ _ h => h
      case yd601n0 => exact .inl ⟨by rfl, by (intro w _; go_simp; try with_reducible rfl)⟩
      (try simp only [Act.put, pA, pZ, pS])
      refine tG (i := 1) (o := ?od601n1) (v := ?vd601n1) growsB ?id601n1 (by kernel_rfl) ?qd601n1 ?yd601n1 ?rd601n1
      case id601n1 => (simp only [gA, gS, gZ]; rfl)
      case qd601n1 => exact fun _ _ _ h => h
      case yd601n1 => exact .inl ⟨by rfl, by (intro w _; go_simp; try with_reducible rfl)⟩
      (try simp only [Act.put, pA, pZ, pS])
      refine tG (i := 2) (o := ?od601n2) (v := ?vd601n2) growsB ?id601n2 (by kernel_rfl) ?qd601n2 ?yd601n2 ?rd601n2
      case id601n2 => (simp only [gA, gS, gZ]; rfl)
      case qd601n2 => exact fun _ _ _ h => h
      case yd601n2 => exact .inl ⟨by rfl, by (intro w hSw; obtain ⟨⟨xa0, xa1, xa2, xa3⟩, ⟨xb0, xb1, xb2, xb3⟩, ⟨xp0, xp1, xp2, xp3⟩, ⟨xq0, xq1, xq2, xq3⟩, -⟩ := HF.out w hSw; go_simp; try with_reducible rfl)⟩
      (try simp only [Act.put, pA, pZ, pS])
      refine tG (i := 3) (o := ?od601n3) (v := ?vd601n3) growsB ?id601n3 (by kernel_rfl) ?qd601n3 ?yd601n3 ?rd601n3
      case id601n3 => (simp only [gA, gS, gZ]; rfl)
      case qd601n3 => exact fun _ _ _ h => h
      case yd601n3 => exact .inl ⟨by rfl, by (intro w _; go_simp; try with_reducible rfl)⟩
      (try simp only [Act.put, pA, pZ, pS])
      refine cG (i := 4) (o := ?od601n4) growsB ?id601n4 (by kernel_rfl) ?qd601n4 ?wd601n4 ?ed601n4 (fun X hX => callO KHp.out hX) ?rd601n4
      case id601n4 => (simp only [gA, gS, gZ]; rfl)
      case qd601n4 => exact fun _ _ _ h => h
      case wd601n4 => rfl
      case ed601n4 => (intro w; go_simp; try with_reducible rfl)
      (try simp only [Act.put, pA, pZ, pS])
      refine tG (i := 5) (o := ?od601n5) (v := ?vd601n5) growsB ?id601n5 (by kernel_rfl) ?qd601n5 ?yd601n5 ?rd601n5
      case id601n5 => (simp only [gA, gS, gZ]; rfl)
      case qd601n5 => exact fun _ _ _ h => h
      case yd601n5 => exact .inl ⟨by rfl, by (intro w hSw; obtain ⟨⟨xa0, xa1, xa2, xa3⟩, ⟨xb0, xb1, xb2, xb3⟩, ⟨xp0, xp1, xp2, xp3⟩, ⟨xq0, xq1, xq2, xq3⟩, -⟩ := HF.out w hSw; go_simp; try with_reducible rfl)⟩
      (try simp only [Act.put, pA, pZ, pS])
      refine tG (i := 6) (o := ?od601n6) (v := ?vd601n6) growsB ?id601n6 (by kernel_rfl) ?qd601n6 ?yd601n6 ?rd601n6
      case id601n6 => (simp only [gA, gS, gZ]; rfl)
      case qd601n6 => exact fun _ _ _ h => h
      case yd601n6 => exact .inl ⟨by rfl, by (intro w _; go_simp; try with_reducible rfl)⟩
      (try simp only [Act.put, pA, pZ, pS])
      refine cG (i := 7) (o := ?od601n7) growsB ?id601n7 (by kernel_rfl) ?qd601n7 ?wd601n7 ?ed601n7 (fun X hX => callO KHa.out hX) ?rd601n7
      case id601n7 => (simp only [gA, gS, gZ]; rfl)
      case qd601n7 => exact fun _ _ _ h => h
      case wd601n7 => rfl
      case ed601n7 => (intro w; go_simp; try with_reducible rfl)
      (try simp only [Act.put, pA, pZ, pS])
      refine tG (i := 8) (o := ?od601n8) (v := ?vd601n8) growsB ?id601n8 (by kernel_rfl) ?qd601n8 ?yd601n8 ?rd601n8
      case id601n8 => (simp only [gA, gS, gZ]; rfl)
      case qd601n8 => exact fun _ _ _ h => h
      case yd601n8 => exact .inl ⟨by rfl, by (intro w _; go_simp; try with_reducible rfl)⟩
      (try simp only [Act.put, pA, pZ, pS])
      refine tG (i := 9) (o := ?od601n9) (v := undef) growsB ?id601n9 (by kernel_rfl) ?qd601n9 ?yd601n9 ?rd601n9
      case id601n9 => (simp only [gA, gS, gZ]; rfl)
      case qd601n9 => exact fun _ _ _ h => h
      case yd601n9 => exact .inr ⟨rfl, rfl⟩
      (try simp only [Act.put, pA, pZ, pS])
      refine tG (i := 10) (o := ?od601n10) (v := undef) growsB ?id601n10 (by kernel_rfl) ?qd601n10 ?yd601n10 ?rd601n10
      case id601n10 => (simp only [gA, gS, gZ]; rfl)
      case qd601n10 => exact fun _ _ _ h => h
      case yd601n10 => exact .inr ⟨rfl, rfl⟩
      (try simp only [Act.put, pA, pZ, pS])
      refine tG (i := 11) (o := ?od601n11) (v := undef) growsB ?id601n11 (by kernel_rfl) ?qd601n11 ?yd601n11 ?rd601n11
      case id601n11 => (simp only [gA, gS, gZ]; rfl)
      case qd601n11 => exact fun _ _ _ h => h
      case yd601n11 => exact .inr ⟨rfl, rfl⟩
      (try simp only [Act.put, pA, pZ, pS])
      refine tG (i := 12) (o := ?od601n12) (v := ?vd601n12) growsB ?id601n12 (by kernel_rfl) ?qd601n12 ?yd601n12 ?rd601n12
      case id601n12 => (simp only [gA, gS, gZ]; rfl)
      case qd601n12 => exact fun _ _ _ h => h
      case yd601n12 => exact .inl ⟨by rfl, by (intro w _; go_simp; try with_reducible rfl)⟩
      (try simp only [Act.put, pA, pZ, pS])
      refine tG (i := 13) (o := ?od601n13) (v := ?vd601n13) growsB ?id601n13 (by kernel_rfl) ?qd601n13 ?yd601n13 ?rd601n13
      case id601n13 => (simp only [gA, gS, gZ]; rfl)
      case qd601n13 => exact fun _ _ _ h => h
      case yd601n13 => exact .inl ⟨by rfl, by (intro w _; go_simp; try with_reducible rfl)⟩
      (try simp only [Act.put, pA, pZ, pS])
      refine tG (i := 14) (o := ?od601n14) (v := ?vd601n14) growsB ?id601n14 (by kernel_rfl) ?qd601n14 ?yd601n14 ?rd601n14
      case id601n14 => (simp only [gA, gS, gZ]; rfl)
      case qd601n14 => exact fun _ _ _ h => h
      case yd601n14 => exact .inl ⟨by rfl, by (intro w _; go_simp; try with_reducible rfl)⟩
      (try simp only [Act.put, pA, pZ, pS])
      refine wpAnyG_done (by kernel_rfl) ?_ _
      (try clear hX)
      intro w9 hX hT
      clear HF
      have oc := hX
      clear hX hT
      generalize w9 = V6001 at *
      have ocY := oc
      have hxa' := hxa.below lxa ocY.2
      have lxa' := Nat.lt_of_lt_of_le lxa ocY.2.size
      have hxb' := hxb.below lxb ocY.2
      have lxb' := Nat.lt_of_lt_of_le lxb ocY.2.size
      have hxp' := hxp.below lxp ocY.2
      have lxp' := Nat.lt_of_lt_of_le lxp ocY.2.size
      have hxq' := hxq.below lxq ocY.2
      have lxq' := Nat.lt_of_lt_of_le lxq ocY.2.size
      (try clear xa0 xa1 xa2 xa3 xb0 xb1 xb2 xb3 xp0 xp1 xp2 xp3 xq0 xq1 xq2 xq3)
      have oo' := oo.step ocY.2
      clear ocY oo oc hxa lxa hxb lxb hxp lxp hxq lxq
      have hxa := hxa'
      have lxa := lxa'
      clear hxa' lxa'
      have hxb := hxb'
      have lxb := lxb'
      clear hxb' lxb'
      have hxp := hxp'
      have lxp := lxp'
      clear hxp' lxp'
      have hxq := hxq'
      have lxq := lxq'
      clear hxq' lxq'
      have oo := oo'
      clear oo'
      have oc := Ok.refl oo.1
      obtain ⟨xa0, xa1, xa2, xa3⟩ := (id hxa).quad
      obtain ⟨xb0, xb1, xb2, xb3⟩ := (id hxb).quad
      obtain ⟨xp0, xp1, xp2, xp3⟩ := (id hxp).quad
      obtain ⟨xq0, xq1, xq2, xq3⟩ := (id hxq).quad
      (try clear xp0 xp1 xp2 xp3)
      (try clear hxp lxp)
      (try clear exp)
      go_upto_region 17 with fail
      (try clear xa0 xa1 xa2 xa3 xb0 xb1 xb2 xb3 xq0 xq1 xq2 xq3)
      have HF := Lib.hid (fun X (h : Ok V6001 X) => And.intro (hxa.below lxa h.2).quad (And.intro (hxb.below lxb h.2).quad (And.intro (hxq.below lxq h.2).quad (trivial))))
      refine wp_region_G (S := (Ok V6001)) (by kernel_rfl) growsB (oc.step (by go_grown)) ?_
      refine tG (i := 0) (o := ?od602n0) (v := ?vd602n0) growsB ?id602n0 (by kernel_rfl) ?qd602n0 ?yd602n0 ?rd602n0
      case id602n0 => (simp only [gA, gZ]; rfl)
      case qd602n0 => exact fun _ _ _ h => h
      case yd602n0 => exact .inl ⟨by rfl, by (intro w _; go_simp; try with_reducible rfl)⟩
      (try simp only [Act.put, pA, pZ, pS])
      refine tG (i := 1) (o := ?od602n1) (v := ?vd602n1) growsB ?id602n1 (by kernel_rfl) ?qd602n1 ?yd602n1 ?rd602n1
      case id602n1 => (simp only [gA, gS, gZ]; rfl)
      case qd602n1 => exact fun _ _ _ h => h
      case yd602n1 => exact .inl ⟨by rfl, by (intro w _; go_simp; try with_reducible rfl)⟩
      (try simp only [Act.put, pA, pZ, pS])
      refine tG (i := 2) (o := ?od602n2) (v := ?vd602n2) growsB ?id602n2 (by kernel_rfl) ?qd602n2 ?yd602n2 ?rd602n2
      case id602n2 => (simp only [gA, gS, gZ]; rfl)
      case qd602n2 => exact fun _ _ _ h => h
      case yd602n2 => exact .inl ⟨by rfl, by (intro w _; go_simp; try with_reducible rfl)⟩
      (try simp only [Act.put, pA, pZ, pS])
      refine tG (i := 3) (o := ?od602n3) (v := ?vd602n3) growsB ?id602n3 (by kernel_rfl) ?qd602n3 ?yd602n3 ?rd602n3
      case id602n3 => (simp only [gA, gS, gZ]; rfl)
      case qd602n3 => exact fun _ _ _ h => h
      case yd602n3 => exact .inl ⟨by rfl, by (intro w _; go_simp; try with_reducible rfl)⟩
      (try simp only [Act.put, pA, pZ, pS])
      refine tG (i := 4) (o := ?od602n4) (v := ?vd602n4) growsB ?id602n4 (by kernel_rfl) ?qd602n4 ?yd602n4 ?rd602n4
      case id602n4 => (simp only [gA, gS, gZ]; rfl)
      case qd602n4 => exact fun _ _ _ h => h
      case yd602n4 => exact .inl ⟨by rfl, by (intro w _; go_simp; try with_reducible rfl)⟩
      (try simp only [Act.put, pA, pZ, pS])
      refine tG (i := 5) (o := ?od602n5) (v := ?vd602n5) growsB ?id602n5 (by kernel_rfl) ?qd602n5 ?yd602n5 ?rd602n5
      case id602n5 => (simp only [gA, gS, gZ]; rfl)
      case qd602n5 => exact fun _ _ _ h => h
      case yd602n5 => exact .inl ⟨by rfl, by (intro w hSw; obtain ⟨⟨xa0, xa1, xa2, xa3⟩, ⟨xb0, xb1, xb2, xb3⟩, ⟨xq0, xq1, xq2, xq3⟩, -⟩ := HF.out w hSw; go_simp; try with_reducible rfl)⟩
      (try simp only [Act.put, pA, pZ, pS])
      refine tG (i := 6) (o := ?od602n6) (v := ?vd602n6) growsB ?id602n6 (by kernel_rfl) ?qd602n6 ?yd602n6 ?rd602n6
      case id602n6 => (simp only [gA, gS, gZ]; rfl)
      case qd602n6 => exact fun _ _ _ h => h
      case yd602n6 => exact .inl ⟨by rfl, by (intro w _; go_simp; try with_reducible rfl)⟩
      (try simp only [Act.put, pA, pZ, pS])
      refine cG (i := 7) (o := ?od602n7) growsB ?id602n7 (by kernel_rfl) ?qd602n7 ?wd602n7 ?ed602n7 (fun X hX => callO KHq.out hX) ?rd602n7
      case id602n7 => (simp only [gA, gS, gZ]; rfl)
      case qd602n7 => exact fun _ _ _ h => h
      case wd602n7 => rfl
      case ed602n7 => (intro w; go_simp; try with_reducible rfl)
      (try simp only [Act.put, pA, pZ, pS])
      refine tG (i := 8) (o := ?od602n8) (v := ?vd602n8) growsB ?id602n8 (by kernel_rfl) ?qd602n8 ?yd602n8 ?rd602n8
      case id602n8 => (simp only [gA, gS, gZ]; rfl)
      case qd602n8 => exact fun _ _ _ h => h
      case yd602n8 => exact .inl ⟨by rfl, by (intro w _; go_simp; try with_reducible rfl)⟩
      (try simp only [Act.put, pA, pZ, pS])
      refine tG (i := 9) (o := ?od602n9) (v := ?vd602n9) growsB ?id602n9 (by kernel_rfl) ?qd602n9 ?yd602n9 ?rd602n9
      case id602n9 => (simp only [gA, gS, gZ]; rfl)
      case qd602n9 => exact fun _ _ _ h => h
      case yd602n9 => exact .inl ⟨by rfl, by (intro w hSw; obtain ⟨⟨xa0, xa1, xa2, xa3⟩, ⟨xb0, xb1, xb2, xb3⟩, ⟨xq0, xq1, xq2, xq3⟩, -⟩ := HF.out w hSw; go_simp; try with_reducible rfl)⟩
      (try simp only [Act.put, pA, pZ, pS])
      refine tG (i := 10) (o := ?od602n10) (v := ?vd602n10) growsB ?id602n10 (by kernel_rfl) ?qd602n10 ?yd602n10 ?rd602n10
      case id602n10 => (simp only [gA, gS, gZ]; rfl)
      case qd602n10 => exact fun _ _ _ h => h
      case yd602n10 => exact .inl ⟨by rfl, by (intro w _; go_simp; try with_reducible rfl)⟩
      (try simp only [Act.put, pA, pZ, pS])
      refine cG (i := 11) (o := ?od602n11) growsB ?id602n11 (by kernel_rfl) ?qd602n11 ?wd602n11 ?ed602n11 (fun X hX => callO KHa.out hX) ?rd602n11
      case id602n11 => (simp only [gA, gS, gZ]; rfl)
      case qd602n11 => exact fun _ _ _ h => h
      case wd602n11 => rfl
      case ed602n11 => (intro w; go_simp; try with_reducible rfl)
      (try simp only [Act.put, pA, pZ, pS])
      refine tG (i := 12) (o := ?od602n12) (v := ?vd602n12) growsB ?id602n12 (by kernel_rfl) ?qd602n12 ?yd602n12 ?rd602n12
      case id602n12 => (simp only [gA, gS, gZ]; rfl)
      case qd602n12 => exact fun _ _ _ h => h
      case yd602n12 => exact .inl ⟨by rfl, by (intro w _; go_simp; try with_reducible rfl)⟩
      (try simp only [Act.put, pA, pZ, pS])
      refine tG (i := 13) (o := ?od602n13) (v := ?vd602n13) growsB ?id602n13 (by kernel_rfl) ?qd602n13 ?yd602n13 ?rd602n13
      case id602n13 => (simp only [gA, gS, gZ]; rfl)
      case qd602n13 => exact fun _ _ _ h => h
      case yd602n13 => exact .inl ⟨by rfl, by (intro w hSw; obtain ⟨⟨xa0, xa1, xa2, xa3⟩, ⟨xb0, xb1, xb2, xb3⟩, ⟨xq0, xq1, xq2, xq3⟩, -⟩ := HF.out w hSw; go_simp; try with_reducible rfl)⟩
      (try simp only [Act.put, pA, pZ, pS])
      refine tG (i := 14) (o := ?od602n14) (v := ?vd602n14) growsB ?id602n14 (by kernel_rfl) ?qd602n14 ?yd602n14 ?rd602n14
      case id602n14 => (simp only [gA, gS, gZ]; rfl)
      case qd602n14 => exact fun _ _ _ h => h
      case yd602n14 => exact .inl ⟨by rfl, by (intro w _; go_simp; try with_reducible rfl)⟩
      (try simp only [Act.put, pA, pZ, pS])
      refine cG (i := 15) (o := ?od602n15) growsB ?id602n15 (by kernel_rfl) ?qd602n15 ?wd602n15 ?ed602n15 (fun X hX => callO KHb.out hX) ?rd602n15
      case id602n15 => (simp only [gA, gS, gZ]; rfl)
      case qd602n15 => exact fun _ _ _ h => h
      case wd602n15 => rfl
      case ed602n15 => (intro w; go_simp; try with_reducible rfl)
      (try simp only [Act.put, pA, pZ, pS])
      refine tG (i := 16) (o := ?od602n16) (v := ?vd602n16) growsB ?id602n16 (by kernel_rfl) ?qd602n16 ?yd602n16 ?rd602n16
      case id602n16 => (simp only [gA, gS, gZ]; rfl)
      case qd602n16 => exact fun _ _ _ h => h
      case yd602n16 => exact .inl ⟨by rfl, by (intro w _; go_simp; try with_reducible rfl)⟩
      (try simp only [Act.put, pA, pZ, pS])
      refine tG (i := 17) (o := ?od602n17) (v := ?vd602n17) growsB ?id602n17 (by kernel_rfl) ?qd602n17 ?yd602n17 ?rd602n17
      case id602n17 => (simp only [gA, gS, gZ]; rfl)
      case qd602n17 => exact fun _ _ _ h => h
      case yd602n17 => exact .inl ⟨by rfl, by (intro w _; go_simp; try with_reducible rfl)⟩
      (try simp only [Act.put, pA, pZ, pS])
      refine tG (i := 18) (o := ?od602n18) (v := ?vd602n18) growsB ?id602n18 (by kernel_rfl) ?qd602n18 ?yd602n18 ?rd602n18
      case id602n18 => (simp only [gA, gS, gZ]; rfl)
      case qd602n18 => exact fun _ _ _ h => h
      case yd602n18 => exact .inl ⟨by rfl, by (intro w _; go_simp; try with_reducible rfl)⟩
      (try simp only [Act.put, pA, pZ, pS])
      refine tG (i := 19) (o := ?od602n19) (v := ?vd602n19) growsB ?id602n19 (by kernel_rfl) ?qd602n19 ?yd602n19 ?rd602n19
      case id602n19 => (simp only [gA, gS, gZ]; rfl)
      case qd602n19 => exact fun _ _ _ h => h
      case yd602n19 => exact .inl ⟨by rfl, by (intro w _; go_simp; try with_reducible rfl)⟩
      (try simp only [Act.put, pA, pZ, pS])
      refine cG (i := 20) (o := ?od602n20) growsB ?id602n20 (by kernel_rfl) ?qd602n20 ?wd602n20 ?ed602n20 (fun X hX => callO KL.out hX) ?rd602n20
      case id602n20 => (simp only [gA, gS, gZ]; rfl)
      case qd602n20 => exact fun _ _ _ h => h
      case wd602n20 => rfl
      case ed602n20 => (intro w; go_simp; try with_reducible rfl)
      (try simp only [Act.put, pA, pZ, pS])
      refine tG (i := 21) (o := ?od602n21) (v := ?vd602n21) growsB ?id602n21 (by kernel_rfl) ?qd602n21 ?yd602n21 ?rd602n21
      case id602n21 => (simp only [gA, gS, gZ]; rfl)
      case qd602n21 => exact fun _ _ _ h => h
      case yd602n21 => exact .inl ⟨by rfl, by (intro w _; go_simp; try with_reducible rfl)⟩
      (try simp only [Act.put, pA, pZ, pS])
      refine tG (i := 22) (o := ?od602n22) (v := ?vd602n22) growsB ?id602n22 (by kernel_rfl) ?qd602n22 ?yd602n22 ?rd602n22
      case id602n22 => (simp only [gA, gS, gZ]; rfl)
      case qd602n22 => exact fun _ _ _ h => h
      case yd602n22 => exact .inl ⟨by rfl, by (intro w _; go_simp; try with_reducible rfl)⟩
      (try simp only [Act.put, pA, pZ, pS])
      refine wpAnyG_done (by kernel_rfl) ?_ _
      (try clear hX)
      intro w9 hX hT
      clear HF
      have oc := hX
      clear hX hT
      generalize w9 = V6002 at *
      have ocY := oc
      have hxa' := hxa.below lxa ocY.2
      have lxa' := Nat.lt_of_lt_of_le lxa ocY.2.size
      have hxb' := hxb.below lxb ocY.2
      have lxb' := Nat.lt_of_lt_of_le lxb ocY.2.size
      have hxq' := hxq.below lxq ocY.2
      have lxq' := Nat.lt_of_lt_of_le lxq ocY.2.size
      (try clear xa0 xa1 xa2 xa3 xb0 xb1 xb2 xb3 xq0 xq1 xq2 xq3)
      have oo' := oo.step ocY.2
      clear ocY oo oc hxa lxa hxb lxb hxq lxq
      have hxa := hxa'
      have lxa := lxa'
      clear hxa' lxa'
      have hxb := hxb'
      have lxb := lxb'
      clear hxb' lxb'
      have hxq := hxq'
      have lxq := lxq'
      clear hxq' lxq'
      have oo := oo'
      clear oo'
      have oc := Ok.refl oo.1
      obtain ⟨xa0, xa1, xa2, xa3⟩ := (id hxa).quad
      obtain ⟨xb0, xb1, xb2, xb3⟩ := (id hxb).quad
      obtain ⟨xq0, xq1, xq2, xq3⟩ := (id hxq).quad
      go_wp2_with fail
      go_ret
      exact ⟨rfl, oo.step oc.2⟩
end Go.Proofs.YtmbaohjekeiphaaGreatDoor.run9
