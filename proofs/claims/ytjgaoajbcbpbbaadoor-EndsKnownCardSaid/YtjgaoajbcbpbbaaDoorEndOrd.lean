/- The law on the order: EndsOrder. -/
import Derived.Test.YtjgaoajbcbpbbaaDoorEndLv
import Derived.Deep.RegionHeld3
import Derived.Deep.CutRange
import Derived.Deep.DeepCutAuto
import Derived.Deep.CutBlock
namespace Go.Proofs.YtjgaoajbcbpbbaaDoor.end8
open Go.RowKit

theorem enC_bd (i d j e : Int) : -1 ≤ enC i d j e ∧ enC i d j e ≤ 1 := by
  rcases enC_cases i d j e with ⟨_, q⟩ | ⟨_, _, q⟩ | ⟨_, _, _, q⟩ | ⟨_, _, _, _, q⟩ | ⟨_, _, _, _, q⟩ <;> rw [q] <;> omega
theorem enC_neg (i d j e : Int) : enC j e i d = -enC i d j e := by
  rcases enC_cases i d j e with ⟨_, q⟩ | ⟨_, _, q⟩ | ⟨_, _, _, q⟩ | ⟨_, _, _, _, q⟩ | ⟨_, _, _, _, q⟩ <;> rcases enC_cases j e i d with ⟨_, p⟩ | ⟨_, _, p⟩ | ⟨_, _, _, p⟩ | ⟨_, _, _, _, p⟩ | ⟨_, _, _, _, p⟩ <;> rw [q, p] <;> omega
theorem eqE_no {i d j e : Int} (h : ¬ (i = j ∧ d = e)) : eqE i d j e = false := by
  cases hq : eqE i d j e
  · rfl
  · exact absurd (eqE_iff.1 hq) h
theorem enC_eq (i d j e : Int) : eqE i d j e = (enC i d j e == 0) := by
  rcases enC_cases i d j e with ⟨_, q⟩ | ⟨_, _, q⟩ | ⟨_, _, _, q⟩ | ⟨_, _, _, _, q⟩ | ⟨_, _, _, _, q⟩
  · rw [q, eqE_no (by omega)]; rfl
  · rw [q, eqE_no (by omega)]; rfl
  · rw [q, eqE_no (by omega)]; rfl
  · rw [q, eqE_no (by omega)]; rfl
  · rw [q, eqE_iff.2 (by omega)]; rfl
theorem enC_trans {i d j e k f : Int} (h1 : enC i d j e ≤ 0) (h2 : enC j e k f ≤ 0) : enC i d k f ≤ 0 := by
  rcases enC_cases i d j e with ⟨_, q⟩ | ⟨_, _, q⟩ | ⟨_, _, _, q⟩ | ⟨_, _, _, _, q⟩ | ⟨_, _, _, _, q⟩ <;> rcases enC_cases j e k f with ⟨_, p⟩ | ⟨_, _, p⟩ | ⟨_, _, _, p⟩ | ⟨_, _, _, _, p⟩ | ⟨_, _, _, _, p⟩ <;> rcases enC_cases i d k f with ⟨_, r⟩ | ⟨_, _, r⟩ | ⟨_, _, _, r⟩ | ⟨_, _, _, _, r⟩ | ⟨_, _, _, _, r⟩ <;> omega
theorem cell_al {w : World} {p : Addr} {v : Value} (h : w.cell? p = some v) (o : Obj) : (w.alloc o).cell? p = some v := by
  rw [World.cell?_alloc_some _ _ _ (by rw [h]; rfl)]; exact h
theorem size_alloc3 (W : World) (o : Obj) : (W.alloc o).heap.size = W.heap.size + 1 := by simp
theorem Bs.swap {X : World} {a b : Nat × Int × Int} {l : List (Nat × Int × Int)} (h : Bs X (a :: b :: l)) : Bs X (b :: a :: l) := ⟨h.2.1, h.1, h.2.2⟩
theorem pair_new {X : World} {l : List (Nat × Int × Int)} (h : Bs X l) (a b c d : Int) :
    Bs (((X.alloc (.cells #[.int .i8 a, .int .i64 b] 24)).alloc (.cells #[.int .i8 c, .int .i64 d] 24)).drew) ((X.heap.size + 1, c, d) :: (X.heap.size, a, b) :: l) ∧ Below X.heap.size X (((X.alloc (.cells #[.int .i8 a, .int .i64 b] 24)).alloc (.cells #[.int .i8 c, .int .i64 d] 24)).drew) := by
  have h2 := Bs.new (Bs.new h a b) c d
  rw [size_alloc3] at h2
  have hd : Below ((X.alloc (.cells #[.int .i8 a, .int .i64 b] 24)).alloc (.cells #[.int .i8 c, .int .i64 d] 24)).heap.size ((X.alloc (.cells #[.int .i8 a, .int .i64 b] 24)).alloc (.cells #[.int .i8 c, .int .i64 d] 24)) (((X.alloc (.cells #[.int .i8 a, .int .i64 b] 24)).alloc (.cells #[.int .i8 c, .int .i64 d] 24)).drew) := ⟨rfl, rfl, rfl, Nat.le_refl _, fun _ _ => rfl⟩
  exact ⟨h2.below hd, (show Below X.heap.size X ((X.alloc (.cells #[.int .i8 a, .int .i64 b] 24)).alloc (.cells #[.int .i8 c, .int .i64 d] 24)) by go_grown).trans (hd.mono (by simp; omega))⟩
theorem bkE_far {X : World} {g : Nat} {i d : Int} (h : BkE X g i d) {a : Addr} (hg : ¬ g = a.block) (v : Value) : BkE (X.setCell a v) g i d := (heap_setCell_other X a g v hg).trans h
theorem bkE_drew {X : World} {g : Nat} {i d : Int} (h : BkE X g i d) : BkE X.drew g i d := h
theorem drew_below (X : World) (B : Nat) : Below B X X.drew := ⟨rfl, rfl, rfl, Nat.le_refl _, fun _ _ => rfl⟩
set_option maxRecDepth 100000 in
set_option maxHeartbeats 8000000 in
theorem order_a (i d j e k f n m l : Int) (w W : World) (KL : Hid (∀ B X, Ok B X → Calls Tryd.prog 12 #[] X fun x w' => x = .returned (.bool true) ∧ Ok B w')) (K1 : Hid (∀ B X, Ok B X → Calls Tryd.prog 8 #[E2 i d, E2 j e] X fun x w' => x = .returned (.int .i64 n) ∧ Ok B w')) (K2 : Hid (∀ B X, Ok B X → Calls Tryd.prog 9 #[E2 i d, E2 j e] X fun x w' => x = .returned (.int .i64 n) ∧ Ok B w')) (K3 : Hid (∀ B X, Ok B X → Calls Tryd.prog 8 #[E2 j e, E2 i d] X fun x w' => x = .returned (.int .i64 (-n)) ∧ Ok B w')) (K4 : Hid (∀ B X, Ok B X → Calls Tryd.prog 8 #[E2 j e, E2 k f] X fun x w' => x = .returned (.int .i64 m) ∧ Ok B w')) (K5 : Hid (∀ B X, Ok B X → Calls Tryd.prog 8 #[E2 i d, E2 k f] X fun x w' => x = .returned (.int .i64 l) ∧ Ok B w')) (hq : Hid (∀ w, (binOp .eql 24 (E2 i d) (E2 j e)).run Tryd.prog w = .ok (.bool (n == 0)) w))
    (hb : -1 ≤ n ∧ n ≤ 1) (eA : Hid (∀ w, (binOp .eql 24 (E2 i d) (E2 i d)).run Tryd.prog w = .ok (.bool true) w)) (eB : Hid (∀ w, (binOp .eql 24 (E2 j e) (E2 j e)).run Tryd.prog w = .ok (.bool true) w))
    (hn : n ≤ 0) (hc : 0 < m ∨ (m ≤ 0 ∧ l ≤ 0)) (KM : Hid (∀ B X, Ok B X → Calls Tryd.prog 10 #[E2 i d, E2 j e] X fun x w' => x = .returned (E2 i d) ∧ Ok B w')) (KX : Hid (∀ B X, Ok B X → Calls Tryd.prog 11 #[E2 i d, E2 j e] X fun x w' => x = .returned (E2 j e) ∧ Ok B w')) (ho : Ok w W) :
    Calls Tryd.prog 3 #[E2 i d, E2 j e, E2 k f] W fun x w' => x = .returned (.bool true) ∧ Ok w w' := by
  obtain ⟨n0, n1⟩ := hb
  have q := hq.out
  have hnn : (n != n) = false := by simp
  have hnm : (-n != -n) = false := by simp
  have hnb : ((n == 0) != (n == 0)) = false := by simp
  clear hq
  have hn2 : ¬ 0 < n := by omega
  rcases hc with hm | ⟨hm, hl⟩
  · have hm' : ¬ m ≤ 0 := by omega
    go_enter Tryd.func3, Tryd.ntmps3
    go_upto_region 1 with fail
    have hB' := Bs.new (Bs.new (Bs.new (show Bs W [] from trivial) i d) j e) k f
    rw [size_alloc3, size_alloc3] at hB'
    have o' : Ok w (((W.alloc (Obj.cells #[Value.int IntKind.i8 i, Value.int IntKind.i64 d] 24)).alloc (Obj.cells #[Value.int IntKind.i8 j, Value.int IntKind.i64 e] 24)).alloc (Obj.cells #[Value.int IntKind.i8 k, Value.int IntKind.i64 f] 24)) := ho.step (by go_grown)
    generalize (((W.alloc (Obj.cells #[Value.int IntKind.i8 i, Value.int IntKind.i64 d] 24)).alloc (Obj.cells #[Value.int IntKind.i8 j, Value.int IntKind.i64 e] 24)).alloc (Obj.cells #[Value.int IntKind.i8 k, Value.int IntKind.i64 f] 24)) = W1 at *
    generalize W.heap.size + 1 + 1 = g3 at *
    generalize W.heap.size + 1 = g2 at *
    generalize W.heap.size = g1 at *
    have hB := hB'
    have oo := o'
    clear o' hB' ho
    have hr := Ok.refl oo.1
    obtain ⟨⟨bg3, lg3⟩, ⟨bg2, lg2⟩, ⟨bg1, lg1⟩, -⟩ := id hB
    obtain ⟨fg30, fg31⟩ := bg3.duo
    obtain ⟨fg20, fg21⟩ := bg2.duo
    obtain ⟨fg10, fg11⟩ := bg1.duo
    clear bg3 lg3 bg2 lg2 bg1 lg1
    go_upto_region 4 with (first
      | (go_at_call 8; ((with_reducible refine (K1.out _ _ hr).mono ?_); rintro e w' ⟨rfl, hk⟩; (try clear hX); have hX := hk.2; (try clear mg30 mg31 mg20 mg21 mg10 mg11); obtain ⟨⟨bg3, lg3⟩, ⟨bg2, lg2⟩, ⟨bg1, lg1⟩, -⟩ := hB.below hk.2; obtain ⟨mg30, mg31⟩ := bg3.duo; obtain ⟨mg20, mg21⟩ := bg2.duo; obtain ⟨mg10, mg11⟩ := bg1.duo; clear bg3 lg3 bg2 lg2 bg1 lg1; clear hk))
      | (go_at_call 9; ((with_reducible refine (K2.out _ _ (hr.step (by go_grown))).mono ?_); rintro e w' ⟨rfl, hk⟩; (try clear hX); have hX := hk.2; (try clear mg30 mg31 mg20 mg21 mg10 mg11); obtain ⟨⟨bg3, lg3⟩, ⟨bg2, lg2⟩, ⟨bg1, lg1⟩, -⟩ := hB.below hk.2; obtain ⟨mg30, mg31⟩ := bg3.duo; obtain ⟨mg20, mg21⟩ := bg2.duo; obtain ⟨mg10, mg11⟩ := bg1.duo; clear bg3 lg3 bg2 lg2 bg1 lg1; clear hk))
      | (go_at_call 8; ((with_reducible refine (K3.out _ _ (hr.step (by go_grown))).mono ?_); rintro e w' ⟨rfl, hk⟩; (try clear hX); have hX := hk.2; (try clear mg30 mg31 mg20 mg21 mg10 mg11); obtain ⟨⟨bg3, lg3⟩, ⟨bg2, lg2⟩, ⟨bg1, lg1⟩, -⟩ := hB.below hk.2; obtain ⟨mg30, mg31⟩ := bg3.duo; obtain ⟨mg20, mg21⟩ := bg2.duo; obtain ⟨mg10, mg11⟩ := bg1.duo; clear bg3 lg3 bg2 lg2 bg1 lg1; clear hk)))
    go_upto_region 6 with (first
      | (go_at_call 8; ((with_reducible refine (K4.out _ _ (hr.step (by go_grown))).mono ?_); rintro e w' ⟨rfl, hk⟩; (try clear hX); have hX := hk.2; (try clear mg30 mg31 mg20 mg21 mg10 mg11); obtain ⟨⟨bg3, lg3⟩, ⟨bg2, lg2⟩, ⟨bg1, lg1⟩, -⟩ := hB.below hk.2; obtain ⟨mg30, mg31⟩ := bg3.duo; obtain ⟨mg20, mg21⟩ := bg2.duo; obtain ⟨mg10, mg11⟩ := bg1.duo; clear bg3 lg3 bg2 lg2 bg1 lg1; clear hk))
      | (go_at_call 8; ((with_reducible refine (K5.out _ _ (hr.step (by go_grown))).mono ?_); rintro e w' ⟨rfl, hk⟩; (try clear hX); have hX := hk.2; (try clear mg30 mg31 mg20 mg21 mg10 mg11); obtain ⟨⟨bg3, lg3⟩, ⟨bg2, lg2⟩, ⟨bg1, lg1⟩, -⟩ := hB.below hk.2; obtain ⟨mg30, mg31⟩ := bg3.duo; obtain ⟨mg20, mg21⟩ := bg2.duo; obtain ⟨mg10, mg11⟩ := bg1.duo; clear bg3 lg3 bg2 lg2 bg1 lg1; clear hk)))
    have ob := oo.step hX
    have hBb := hB.below hX
    clear oo hB hr hX q K1 K2 K3 K4 K5 mg30 mg31 fg30 fg31 mg20 mg21 fg20 fg21 mg10 mg11 fg10 fg11
    rename_i wz
    have hr := Ok.refl ob.1
    have oo := ob
    have hB := hBb
    clear ob hBb
    obtain ⟨⟨bg3, lg3⟩, ⟨bg2, lg2⟩, ⟨bg1, lg1⟩, -⟩ := id hB
    obtain ⟨fg30, fg31⟩ := bg3.duo
    obtain ⟨fg20, fg21⟩ := bg2.duo
    obtain ⟨fg10, fg11⟩ := bg1.duo
    clear bg3 lg3 bg2 lg2 bg1 lg1
    have ug10 := fun o => cell_al fg10 o
    have vg10 := fun o p => cell_al (ug10 o) p
    have ug11 := fun o => cell_al fg11 o
    have vg11 := fun o p => cell_al (ug11 o) p
    have ug20 := fun o => cell_al fg20 o
    have vg20 := fun o p => cell_al (ug20 o) p
    have ug21 := fun o => cell_al fg21 o
    have vg21 := fun o p => cell_al (ug21 o) p
    go_cut [8, 9] (fun a b wx => ∃ ga gb : Nat, a = .pointer (some ⟨ga, 0, none⟩) ∧ b = .pointer (some ⟨gb, 0, none⟩) ∧ Bs wx [(ga, i, d), (gb, j, e), (g3, k, f), (g2, j, e), (g1, i, d)] ∧ w'.heap.size ≤ ga ∧ w'.heap.size ≤ gb ∧ ¬ ga = gb ∧ Below w'.heap.size w' wx)
    case first =>
      go_region
      all_goals
        go_wp2_with fail
        go_meet
        first
          | exact ⟨_, _, rfl, rfl, (pair_new hB j e i d).1, by omega, by omega, by omega, (pair_new hB j e i d).2⟩
          | exact ⟨_, _, rfl, rfl, (pair_new hB i d j e).1.swap, by omega, by omega, by omega, (pair_new hB i d j e).2⟩
    case rest =>
      obtain ⟨ga, gb, rfl, rfl, hBb, hga, hgb, hne, hX⟩ := hcut
      clear fg30 fg31 fg20 fg21 fg10 fg11 ug10 vg10 ug11 vg11 ug20 vg20 ug21 vg21 hB
      have ob := oo.step hX
      clear oo hr hX
      have hr := Ok.refl ob.1
      have oo := ob
      have hB := hBb
      clear ob hBb
      obtain ⟨⟨bga, lga⟩, ⟨bgb, lgb⟩, ⟨bg3, lg3⟩, ⟨bg2, lg2⟩, ⟨bg1, lg1⟩, -⟩ := id hB
      obtain ⟨fga0, fga1⟩ := bga.duo
      obtain ⟨fgb0, fgb1⟩ := bgb.duo
      obtain ⟨fg30, fg31⟩ := bg3.duo
      obtain ⟨fg20, fg21⟩ := bg2.duo
      obtain ⟨fg10, fg11⟩ := bg1.duo
      clear bga lga bgb lgb bg3 lg3 bg2 lg2 bg1 lg1
      go_upto_region 9 with fail
      have q1 := eA.out
      have q2 := eB.out
      go_region_held3 (fun x => x.cell? ⟨ga, 0, none⟩ = some (.int .i8 i) ∧ x.cell? ⟨ga, 1, none⟩ = some (.int .i64 d) ∧ x.cell? ⟨gb, 0, none⟩ = some (.int .i8 j) ∧ x.cell? ⟨gb, 1, none⟩ = some (.int .i64 e) ∧ x.cell? ⟨g2, 0, none⟩ = some (.int .i8 j) ∧ x.cell? ⟨g2, 1, none⟩ = some (.int .i64 e) ∧ x.cell? ⟨g1, 0, none⟩ = some (.int .i8 i) ∧ x.cell? ⟨g1, 1, none⟩ = some (.int .i64 d)) (go_keep)
        (first
          | (go_at_call 10; ((with_reducible refine (KM.out _ _ (hr.step (by go_grown))).mono ?_); rintro e w' ⟨rfl, hk⟩; (try clear hX); have hX := hk.2; (try clear mga0 mga1 mgb0 mgb1 mg30 mg31 mg20 mg21 mg10 mg11); obtain ⟨⟨bga, lga⟩, ⟨bgb, lgb⟩, ⟨bg3, lg3⟩, ⟨bg2, lg2⟩, ⟨bg1, lg1⟩, -⟩ := hB.below hk.2; obtain ⟨mga0, mga1⟩ := bga.duo; obtain ⟨mgb0, mgb1⟩ := bgb.duo; obtain ⟨mg30, mg31⟩ := bg3.duo; obtain ⟨mg20, mg21⟩ := bg2.duo; obtain ⟨mg10, mg11⟩ := bg1.duo; clear bga lga bgb lgb bg3 lg3 bg2 lg2 bg1 lg1; clear hk))
          | (go_at_call 11; ((with_reducible refine (KX.out _ _ (hr.step (by go_grown))).mono ?_); rintro e w' ⟨rfl, hk⟩; (try clear hX); have hX := hk.2; (try clear mga0 mga1 mgb0 mgb1 mg30 mg31 mg20 mg21 mg10 mg11); obtain ⟨⟨bga, lga⟩, ⟨bgb, lgb⟩, ⟨bg3, lg3⟩, ⟨bg2, lg2⟩, ⟨bg1, lg1⟩, -⟩ := hB.below hk.2; obtain ⟨mga0, mga1⟩ := bga.duo; obtain ⟨mgb0, mgb1⟩ := bgb.duo; obtain ⟨mg30, mg31⟩ := bg3.duo; obtain ⟨mg20, mg21⟩ := bg2.duo; obtain ⟨mg10, mg11⟩ := bg1.duo; clear bga lga bgb lgb bg3 lg3 bg2 lg2 bg1 lg1; clear hk))
          | (go_at_call 12; ((with_reducible refine (KL.out _ _ (hr.step (by go_grown))).mono ?_); rintro e w' ⟨rfl, hk⟩; (try clear hX); have hX := hk.2; (try clear mga0 mga1 mgb0 mgb1 mg30 mg31 mg20 mg21 mg10 mg11); obtain ⟨⟨bga, lga⟩, ⟨bgb, lgb⟩, ⟨bg3, lg3⟩, ⟨bg2, lg2⟩, ⟨bg1, lg1⟩, -⟩ := hB.below hk.2; obtain ⟨mga0, mga1⟩ := bga.duo; obtain ⟨mgb0, mgb1⟩ := bgb.duo; obtain ⟨mg30, mg31⟩ := bg3.duo; obtain ⟨mg20, mg21⟩ := bg2.duo; obtain ⟨mg10, mg11⟩ := bg1.duo; clear bga lga bgb lgb bg3 lg3 bg2 lg2 bg1 lg1; clear hk)))
      all_goals
        go_wp2_with fail
        go_ret
        exact ⟨rfl, oo.step hX⟩
  · have hl' : ¬ 0 < l := by omega
    go_enter Tryd.func3, Tryd.ntmps3
    go_upto_region 1 with fail
    have hB' := Bs.new (Bs.new (Bs.new (show Bs W [] from trivial) i d) j e) k f
    rw [size_alloc3, size_alloc3] at hB'
    have o' : Ok w (((W.alloc (Obj.cells #[Value.int IntKind.i8 i, Value.int IntKind.i64 d] 24)).alloc (Obj.cells #[Value.int IntKind.i8 j, Value.int IntKind.i64 e] 24)).alloc (Obj.cells #[Value.int IntKind.i8 k, Value.int IntKind.i64 f] 24)) := ho.step (by go_grown)
    generalize (((W.alloc (Obj.cells #[Value.int IntKind.i8 i, Value.int IntKind.i64 d] 24)).alloc (Obj.cells #[Value.int IntKind.i8 j, Value.int IntKind.i64 e] 24)).alloc (Obj.cells #[Value.int IntKind.i8 k, Value.int IntKind.i64 f] 24)) = W1 at *
    generalize W.heap.size + 1 + 1 = g3 at *
    generalize W.heap.size + 1 = g2 at *
    generalize W.heap.size = g1 at *
    have hB := hB'
    have oo := o'
    clear o' hB' ho
    have hr := Ok.refl oo.1
    obtain ⟨⟨bg3, lg3⟩, ⟨bg2, lg2⟩, ⟨bg1, lg1⟩, -⟩ := id hB
    obtain ⟨fg30, fg31⟩ := bg3.duo
    obtain ⟨fg20, fg21⟩ := bg2.duo
    obtain ⟨fg10, fg11⟩ := bg1.duo
    clear bg3 lg3 bg2 lg2 bg1 lg1
    go_upto_region 4 with (first
      | (go_at_call 8; ((with_reducible refine (K1.out _ _ hr).mono ?_); rintro e w' ⟨rfl, hk⟩; (try clear hX); have hX := hk.2; (try clear mg30 mg31 mg20 mg21 mg10 mg11); obtain ⟨⟨bg3, lg3⟩, ⟨bg2, lg2⟩, ⟨bg1, lg1⟩, -⟩ := hB.below hk.2; obtain ⟨mg30, mg31⟩ := bg3.duo; obtain ⟨mg20, mg21⟩ := bg2.duo; obtain ⟨mg10, mg11⟩ := bg1.duo; clear bg3 lg3 bg2 lg2 bg1 lg1; clear hk))
      | (go_at_call 9; ((with_reducible refine (K2.out _ _ (hr.step (by go_grown))).mono ?_); rintro e w' ⟨rfl, hk⟩; (try clear hX); have hX := hk.2; (try clear mg30 mg31 mg20 mg21 mg10 mg11); obtain ⟨⟨bg3, lg3⟩, ⟨bg2, lg2⟩, ⟨bg1, lg1⟩, -⟩ := hB.below hk.2; obtain ⟨mg30, mg31⟩ := bg3.duo; obtain ⟨mg20, mg21⟩ := bg2.duo; obtain ⟨mg10, mg11⟩ := bg1.duo; clear bg3 lg3 bg2 lg2 bg1 lg1; clear hk))
      | (go_at_call 8; ((with_reducible refine (K3.out _ _ (hr.step (by go_grown))).mono ?_); rintro e w' ⟨rfl, hk⟩; (try clear hX); have hX := hk.2; (try clear mg30 mg31 mg20 mg21 mg10 mg11); obtain ⟨⟨bg3, lg3⟩, ⟨bg2, lg2⟩, ⟨bg1, lg1⟩, -⟩ := hB.below hk.2; obtain ⟨mg30, mg31⟩ := bg3.duo; obtain ⟨mg20, mg21⟩ := bg2.duo; obtain ⟨mg10, mg11⟩ := bg1.duo; clear bg3 lg3 bg2 lg2 bg1 lg1; clear hk)))
    go_upto_region 6 with (first
      | (go_at_call 8; ((with_reducible refine (K4.out _ _ (hr.step (by go_grown))).mono ?_); rintro e w' ⟨rfl, hk⟩; (try clear hX); have hX := hk.2; (try clear mg30 mg31 mg20 mg21 mg10 mg11); obtain ⟨⟨bg3, lg3⟩, ⟨bg2, lg2⟩, ⟨bg1, lg1⟩, -⟩ := hB.below hk.2; obtain ⟨mg30, mg31⟩ := bg3.duo; obtain ⟨mg20, mg21⟩ := bg2.duo; obtain ⟨mg10, mg11⟩ := bg1.duo; clear bg3 lg3 bg2 lg2 bg1 lg1; clear hk))
      | (go_at_call 8; ((with_reducible refine (K5.out _ _ (hr.step (by go_grown))).mono ?_); rintro e w' ⟨rfl, hk⟩; (try clear hX); have hX := hk.2; (try clear mg30 mg31 mg20 mg21 mg10 mg11); obtain ⟨⟨bg3, lg3⟩, ⟨bg2, lg2⟩, ⟨bg1, lg1⟩, -⟩ := hB.below hk.2; obtain ⟨mg30, mg31⟩ := bg3.duo; obtain ⟨mg20, mg21⟩ := bg2.duo; obtain ⟨mg10, mg11⟩ := bg1.duo; clear bg3 lg3 bg2 lg2 bg1 lg1; clear hk)))
    have ob := oo.step hX
    have hBb := hB.below hX
    clear oo hB hr hX q K1 K2 K3 K4 K5 mg30 mg31 fg30 fg31 mg20 mg21 fg20 fg21 mg10 mg11 fg10 fg11
    rename_i wz
    have hr := Ok.refl ob.1
    have oo := ob
    have hB := hBb
    clear ob hBb
    obtain ⟨⟨bg3, lg3⟩, ⟨bg2, lg2⟩, ⟨bg1, lg1⟩, -⟩ := id hB
    obtain ⟨fg30, fg31⟩ := bg3.duo
    obtain ⟨fg20, fg21⟩ := bg2.duo
    obtain ⟨fg10, fg11⟩ := bg1.duo
    clear bg3 lg3 bg2 lg2 bg1 lg1
    have ug10 := fun o => cell_al fg10 o
    have vg10 := fun o p => cell_al (ug10 o) p
    have ug11 := fun o => cell_al fg11 o
    have vg11 := fun o p => cell_al (ug11 o) p
    have ug20 := fun o => cell_al fg20 o
    have vg20 := fun o p => cell_al (ug20 o) p
    have ug21 := fun o => cell_al fg21 o
    have vg21 := fun o p => cell_al (ug21 o) p
    go_cut [8, 9] (fun a b wx => ∃ ga gb : Nat, a = .pointer (some ⟨ga, 0, none⟩) ∧ b = .pointer (some ⟨gb, 0, none⟩) ∧ Bs wx [(ga, i, d), (gb, j, e), (g3, k, f), (g2, j, e), (g1, i, d)] ∧ w'.heap.size ≤ ga ∧ w'.heap.size ≤ gb ∧ ¬ ga = gb ∧ Below w'.heap.size w' wx)
    case first =>
      go_region
      all_goals
        go_wp2_with fail
        go_meet
        first
          | exact ⟨_, _, rfl, rfl, (pair_new hB j e i d).1, by omega, by omega, by omega, (pair_new hB j e i d).2⟩
          | exact ⟨_, _, rfl, rfl, (pair_new hB i d j e).1.swap, by omega, by omega, by omega, (pair_new hB i d j e).2⟩
    case rest =>
      obtain ⟨ga, gb, rfl, rfl, hBb, hga, hgb, hne, hX⟩ := hcut
      clear fg30 fg31 fg20 fg21 fg10 fg11 ug10 vg10 ug11 vg11 ug20 vg20 ug21 vg21 hB
      have ob := oo.step hX
      clear oo hr hX
      have hr := Ok.refl ob.1
      have oo := ob
      have hB := hBb
      clear ob hBb
      obtain ⟨⟨bga, lga⟩, ⟨bgb, lgb⟩, ⟨bg3, lg3⟩, ⟨bg2, lg2⟩, ⟨bg1, lg1⟩, -⟩ := id hB
      obtain ⟨fga0, fga1⟩ := bga.duo
      obtain ⟨fgb0, fgb1⟩ := bgb.duo
      obtain ⟨fg30, fg31⟩ := bg3.duo
      obtain ⟨fg20, fg21⟩ := bg2.duo
      obtain ⟨fg10, fg11⟩ := bg1.duo
      clear bga lga bgb lgb bg3 lg3 bg2 lg2 bg1 lg1
      go_upto_region 9 with fail
      have q1 := eA.out
      have q2 := eB.out
      go_region_held3 (fun x => x.cell? ⟨ga, 0, none⟩ = some (.int .i8 i) ∧ x.cell? ⟨ga, 1, none⟩ = some (.int .i64 d) ∧ x.cell? ⟨gb, 0, none⟩ = some (.int .i8 j) ∧ x.cell? ⟨gb, 1, none⟩ = some (.int .i64 e) ∧ x.cell? ⟨g2, 0, none⟩ = some (.int .i8 j) ∧ x.cell? ⟨g2, 1, none⟩ = some (.int .i64 e) ∧ x.cell? ⟨g1, 0, none⟩ = some (.int .i8 i) ∧ x.cell? ⟨g1, 1, none⟩ = some (.int .i64 d)) (go_keep)
        (first
          | (go_at_call 10; ((with_reducible refine (KM.out _ _ (hr.step (by go_grown))).mono ?_); rintro e w' ⟨rfl, hk⟩; (try clear hX); have hX := hk.2; (try clear mga0 mga1 mgb0 mgb1 mg30 mg31 mg20 mg21 mg10 mg11); obtain ⟨⟨bga, lga⟩, ⟨bgb, lgb⟩, ⟨bg3, lg3⟩, ⟨bg2, lg2⟩, ⟨bg1, lg1⟩, -⟩ := hB.below hk.2; obtain ⟨mga0, mga1⟩ := bga.duo; obtain ⟨mgb0, mgb1⟩ := bgb.duo; obtain ⟨mg30, mg31⟩ := bg3.duo; obtain ⟨mg20, mg21⟩ := bg2.duo; obtain ⟨mg10, mg11⟩ := bg1.duo; clear bga lga bgb lgb bg3 lg3 bg2 lg2 bg1 lg1; clear hk))
          | (go_at_call 11; ((with_reducible refine (KX.out _ _ (hr.step (by go_grown))).mono ?_); rintro e w' ⟨rfl, hk⟩; (try clear hX); have hX := hk.2; (try clear mga0 mga1 mgb0 mgb1 mg30 mg31 mg20 mg21 mg10 mg11); obtain ⟨⟨bga, lga⟩, ⟨bgb, lgb⟩, ⟨bg3, lg3⟩, ⟨bg2, lg2⟩, ⟨bg1, lg1⟩, -⟩ := hB.below hk.2; obtain ⟨mga0, mga1⟩ := bga.duo; obtain ⟨mgb0, mgb1⟩ := bgb.duo; obtain ⟨mg30, mg31⟩ := bg3.duo; obtain ⟨mg20, mg21⟩ := bg2.duo; obtain ⟨mg10, mg11⟩ := bg1.duo; clear bga lga bgb lgb bg3 lg3 bg2 lg2 bg1 lg1; clear hk))
          | (go_at_call 12; ((with_reducible refine (KL.out _ _ (hr.step (by go_grown))).mono ?_); rintro e w' ⟨rfl, hk⟩; (try clear hX); have hX := hk.2; (try clear mga0 mga1 mgb0 mgb1 mg30 mg31 mg20 mg21 mg10 mg11); obtain ⟨⟨bga, lga⟩, ⟨bgb, lgb⟩, ⟨bg3, lg3⟩, ⟨bg2, lg2⟩, ⟨bg1, lg1⟩, -⟩ := hB.below hk.2; obtain ⟨mga0, mga1⟩ := bga.duo; obtain ⟨mgb0, mgb1⟩ := bgb.duo; obtain ⟨mg30, mg31⟩ := bg3.duo; obtain ⟨mg20, mg21⟩ := bg2.duo; obtain ⟨mg10, mg11⟩ := bg1.duo; clear bga lga bgb lgb bg3 lg3 bg2 lg2 bg1 lg1; clear hk)))
      all_goals
        go_wp2_with fail
        go_ret
        exact ⟨rfl, oo.step hX⟩
set_option maxRecDepth 100000 in
set_option maxHeartbeats 8000000 in
theorem order_b (i d j e k f n : Int) (w W : World) (KL : Hid (∀ B X, Ok B X → Calls Tryd.prog 12 #[] X fun x w' => x = .returned (.bool true) ∧ Ok B w')) (K1 : Hid (∀ B X, Ok B X → Calls Tryd.prog 8 #[E2 i d, E2 j e] X fun x w' => x = .returned (.int .i64 n) ∧ Ok B w')) (K2 : Hid (∀ B X, Ok B X → Calls Tryd.prog 9 #[E2 i d, E2 j e] X fun x w' => x = .returned (.int .i64 n) ∧ Ok B w')) (K3 : Hid (∀ B X, Ok B X → Calls Tryd.prog 8 #[E2 j e, E2 i d] X fun x w' => x = .returned (.int .i64 (-n)) ∧ Ok B w')) (hq : Hid (∀ w, (binOp .eql 24 (E2 i d) (E2 j e)).run Tryd.prog w = .ok (.bool (n == 0)) w))
    (hb : -1 ≤ n ∧ n ≤ 1) (eA : Hid (∀ w, (binOp .eql 24 (E2 i d) (E2 i d)).run Tryd.prog w = .ok (.bool true) w)) (eB : Hid (∀ w, (binOp .eql 24 (E2 j e) (E2 j e)).run Tryd.prog w = .ok (.bool true) w))
    (hn : 0 < n) (KM : Hid (∀ B X, Ok B X → Calls Tryd.prog 10 #[E2 i d, E2 j e] X fun x w' => x = .returned (E2 j e) ∧ Ok B w')) (KX : Hid (∀ B X, Ok B X → Calls Tryd.prog 11 #[E2 i d, E2 j e] X fun x w' => x = .returned (E2 i d) ∧ Ok B w')) (ho : Ok w W) :
    Calls Tryd.prog 3 #[E2 i d, E2 j e, E2 k f] W fun x w' => x = .returned (.bool true) ∧ Ok w w' := by
  obtain ⟨n0, n1⟩ := hb
  have q := hq.out
  have hnn : (n != n) = false := by simp
  have hnm : (-n != -n) = false := by simp
  have hnb : ((n == 0) != (n == 0)) = false := by simp
  clear hq
  have hn2 : ¬ n ≤ 0 := by omega
  have hn3 : ¬ n = 0 := by omega
  · skip
    go_enter Tryd.func3, Tryd.ntmps3
    go_upto_region 1 with fail
    have hB' := Bs.new (Bs.new (Bs.new (show Bs W [] from trivial) i d) j e) k f
    rw [size_alloc3, size_alloc3] at hB'
    have o' : Ok w (((W.alloc (Obj.cells #[Value.int IntKind.i8 i, Value.int IntKind.i64 d] 24)).alloc (Obj.cells #[Value.int IntKind.i8 j, Value.int IntKind.i64 e] 24)).alloc (Obj.cells #[Value.int IntKind.i8 k, Value.int IntKind.i64 f] 24)) := ho.step (by go_grown)
    generalize (((W.alloc (Obj.cells #[Value.int IntKind.i8 i, Value.int IntKind.i64 d] 24)).alloc (Obj.cells #[Value.int IntKind.i8 j, Value.int IntKind.i64 e] 24)).alloc (Obj.cells #[Value.int IntKind.i8 k, Value.int IntKind.i64 f] 24)) = W1 at *
    generalize W.heap.size + 1 + 1 = g3 at *
    generalize W.heap.size + 1 = g2 at *
    generalize W.heap.size = g1 at *
    have hB := hB'
    have oo := o'
    clear o' hB' ho
    have hr := Ok.refl oo.1
    obtain ⟨⟨bg3, lg3⟩, ⟨bg2, lg2⟩, ⟨bg1, lg1⟩, -⟩ := id hB
    obtain ⟨fg30, fg31⟩ := bg3.duo
    obtain ⟨fg20, fg21⟩ := bg2.duo
    obtain ⟨fg10, fg11⟩ := bg1.duo
    clear bg3 lg3 bg2 lg2 bg1 lg1
    go_upto_region 4 with (first
      | (go_at_call 8; ((with_reducible refine (K1.out _ _ hr).mono ?_); rintro e w' ⟨rfl, hk⟩; (try clear hX); have hX := hk.2; (try clear mg30 mg31 mg20 mg21 mg10 mg11); obtain ⟨⟨bg3, lg3⟩, ⟨bg2, lg2⟩, ⟨bg1, lg1⟩, -⟩ := hB.below hk.2; obtain ⟨mg30, mg31⟩ := bg3.duo; obtain ⟨mg20, mg21⟩ := bg2.duo; obtain ⟨mg10, mg11⟩ := bg1.duo; clear bg3 lg3 bg2 lg2 bg1 lg1; clear hk))
      | (go_at_call 9; ((with_reducible refine (K2.out _ _ (hr.step (by go_grown))).mono ?_); rintro e w' ⟨rfl, hk⟩; (try clear hX); have hX := hk.2; (try clear mg30 mg31 mg20 mg21 mg10 mg11); obtain ⟨⟨bg3, lg3⟩, ⟨bg2, lg2⟩, ⟨bg1, lg1⟩, -⟩ := hB.below hk.2; obtain ⟨mg30, mg31⟩ := bg3.duo; obtain ⟨mg20, mg21⟩ := bg2.duo; obtain ⟨mg10, mg11⟩ := bg1.duo; clear bg3 lg3 bg2 lg2 bg1 lg1; clear hk))
      | (go_at_call 8; ((with_reducible refine (K3.out _ _ (hr.step (by go_grown))).mono ?_); rintro e w' ⟨rfl, hk⟩; (try clear hX); have hX := hk.2; (try clear mg30 mg31 mg20 mg21 mg10 mg11); obtain ⟨⟨bg3, lg3⟩, ⟨bg2, lg2⟩, ⟨bg1, lg1⟩, -⟩ := hB.below hk.2; obtain ⟨mg30, mg31⟩ := bg3.duo; obtain ⟨mg20, mg21⟩ := bg2.duo; obtain ⟨mg10, mg11⟩ := bg1.duo; clear bg3 lg3 bg2 lg2 bg1 lg1; clear hk)))
    go_upto_region 6 with fail
    have ob := oo.step hX
    have hBb := hB.below hX
    clear oo hB hr hX q K1 K2 K3 mg30 mg31 fg30 fg31 mg20 mg21 fg20 fg21 mg10 mg11 fg10 fg11
    rename_i wz
    have hr := Ok.refl ob.1
    have oo := ob
    have hB := hBb
    clear ob hBb
    obtain ⟨⟨bg3, lg3⟩, ⟨bg2, lg2⟩, ⟨bg1, lg1⟩, -⟩ := id hB
    obtain ⟨fg30, fg31⟩ := bg3.duo
    obtain ⟨fg20, fg21⟩ := bg2.duo
    obtain ⟨fg10, fg11⟩ := bg1.duo
    clear bg3 lg3 bg2 lg2 bg1 lg1
    have ug10 := fun o => cell_al fg10 o
    have vg10 := fun o p => cell_al (ug10 o) p
    have ug11 := fun o => cell_al fg11 o
    have vg11 := fun o p => cell_al (ug11 o) p
    have ug20 := fun o => cell_al fg20 o
    have vg20 := fun o p => cell_al (ug20 o) p
    have ug21 := fun o => cell_al fg21 o
    have vg21 := fun o p => cell_al (ug21 o) p
    have hlt : g3 < w'.heap.size ∧ g2 < w'.heap.size ∧ g1 < w'.heap.size := ⟨hB.1.2, hB.2.1.2, hB.2.2.1.2⟩
    go_cut [8, 9] (fun a b wx => ∃ ga gb : Nat, a = .pointer (some ⟨ga, 0, none⟩) ∧ b = .pointer (some ⟨gb, 0, none⟩) ∧ Bs wx [(ga, i, d), (gb, j, e), (g3, k, f), (g2, j, e), (g1, i, d)] ∧ w'.heap.size ≤ ga ∧ w'.heap.size ≤ gb ∧ ¬ ga = gb ∧ Below w'.heap.size w' wx)
    case first =>
      go_region
      all_goals
        go_wp2_with fail
        go_meet
        first
          | exact ⟨_, _, rfl, rfl, (pair_new hB j e i d).1, by omega, by omega, by omega, (pair_new hB j e i d).2⟩
          | exact ⟨_, _, rfl, rfl, (pair_new hB i d j e).1.swap, by omega, by omega, by omega, (pair_new hB i d j e).2⟩
    case rest =>
      obtain ⟨ga, gb, rfl, rfl, hBb, hga, hgb, hne, hX⟩ := hcut
      clear fg30 fg31 fg20 fg21 fg10 fg11 ug10 vg10 ug11 vg11 ug20 vg20 ug21 vg21
      obtain ⟨⟨bga, lga⟩, ⟨bgb, lgb⟩, ⟨bg3, lg3⟩, ⟨bg2, lg2⟩, ⟨bg1, lg1⟩, -⟩ := id hBb
      obtain ⟨fga0, fga1⟩ := bga.duo
      obtain ⟨fgb0, fgb1⟩ := bgb.duo
      obtain ⟨fg30, fg31⟩ := bg3.duo
      obtain ⟨fg20, fg21⟩ := bg2.duo
      obtain ⟨fg10, fg11⟩ := bg1.duo
      clear bg3 lg3 bg2 lg2 bg1 lg1
      have z0 := bga.frozen 0
      have z1 := bga.frozen 1
      have z2 := bgb.frozen 0
      have z3 := bgb.frozen 1
      have HA := Lib.hid bga
      have HB := Lib.hid bgb
      clear bga bgb hBb
      have hne2 : ¬ gb = ga := fun q => hne q.symm
      go_upto_region 8 with fail
      go_cut [] (fun wx => BkE wx ga j e ∧ BkE wx gb i d ∧ Below w'.heap.size w' wx ∧ ga < wx.heap.size ∧ gb < wx.heap.size)
      case first =>
        go_region
        all_goals
          go_wp2_with fail
          go_meet
          refine ⟨?_, ?_, ?_, ?_, ?_⟩
          · exact bkE_drew (bkE_far (bkE_far (HA.out.store j e) hne _) hne _)
          · exact bkE_drew ((bkE_far (bkE_far HB.out hne2 _) hne2 _).store i d)
          · exact (set2_below (set2_below hX hga j e) hgb i d).trans (drew_below _ _)
          · simpa using lga
          · simpa using lgb
      case rest =>
      obtain ⟨hA2, hB2, hX2, la2, lb2⟩ := hcut
      have hBb : Bs wc [(ga, j, e), (gb, i, d), (g3, k, f), (g2, j, e), (g1, i, d)] := ⟨⟨hA2, la2⟩, ⟨hB2, lb2⟩, hB.below hX2⟩
      have ob := oo.step hX2
      clear oo hr hX hX2 hB hA2 hB2 HA HB z0 z1 z2 z3 la2 lb2 fga0 fga1 fgb0 fgb1 fg30 fg31 fg20 fg21 fg10 fg11
      have hr := Ok.refl ob.1
      have oo := ob
      have hB := hBb
      clear ob hBb
      obtain ⟨⟨bga, lga⟩, ⟨bgb, lgb⟩, ⟨bg3, lg3⟩, ⟨bg2, lg2⟩, ⟨bg1, lg1⟩, -⟩ := id hB
      obtain ⟨fga0, fga1⟩ := bga.duo
      obtain ⟨fgb0, fgb1⟩ := bgb.duo
      obtain ⟨fg30, fg31⟩ := bg3.duo
      obtain ⟨fg20, fg21⟩ := bg2.duo
      obtain ⟨fg10, fg11⟩ := bg1.duo
      clear bga lga bgb lgb bg3 lg3 bg2 lg2 bg1 lg1
      go_upto_region 9 with fail
      have q1 := eA.out
      have q2 := eB.out
      go_region_held3 (fun x => x.cell? ⟨ga, 0, none⟩ = some (.int .i8 j) ∧ x.cell? ⟨ga, 1, none⟩ = some (.int .i64 e) ∧ x.cell? ⟨gb, 0, none⟩ = some (.int .i8 i) ∧ x.cell? ⟨gb, 1, none⟩ = some (.int .i64 d) ∧ x.cell? ⟨g2, 0, none⟩ = some (.int .i8 j) ∧ x.cell? ⟨g2, 1, none⟩ = some (.int .i64 e) ∧ x.cell? ⟨g1, 0, none⟩ = some (.int .i8 i) ∧ x.cell? ⟨g1, 1, none⟩ = some (.int .i64 d)) (go_keep)
        (first
          | (go_at_call 10; ((with_reducible refine (KM.out _ _ (hr.step (by go_grown))).mono ?_); rintro e w' ⟨rfl, hk⟩; (try clear hX); have hX := hk.2; (try clear mga0 mga1 mgb0 mgb1 mg30 mg31 mg20 mg21 mg10 mg11); obtain ⟨⟨bga, lga⟩, ⟨bgb, lgb⟩, ⟨bg3, lg3⟩, ⟨bg2, lg2⟩, ⟨bg1, lg1⟩, -⟩ := hB.below hk.2; obtain ⟨mga0, mga1⟩ := bga.duo; obtain ⟨mgb0, mgb1⟩ := bgb.duo; obtain ⟨mg30, mg31⟩ := bg3.duo; obtain ⟨mg20, mg21⟩ := bg2.duo; obtain ⟨mg10, mg11⟩ := bg1.duo; clear bga lga bgb lgb bg3 lg3 bg2 lg2 bg1 lg1; clear hk))
          | (go_at_call 11; ((with_reducible refine (KX.out _ _ (hr.step (by go_grown))).mono ?_); rintro e w' ⟨rfl, hk⟩; (try clear hX); have hX := hk.2; (try clear mga0 mga1 mgb0 mgb1 mg30 mg31 mg20 mg21 mg10 mg11); obtain ⟨⟨bga, lga⟩, ⟨bgb, lgb⟩, ⟨bg3, lg3⟩, ⟨bg2, lg2⟩, ⟨bg1, lg1⟩, -⟩ := hB.below hk.2; obtain ⟨mga0, mga1⟩ := bga.duo; obtain ⟨mgb0, mgb1⟩ := bgb.duo; obtain ⟨mg30, mg31⟩ := bg3.duo; obtain ⟨mg20, mg21⟩ := bg2.duo; obtain ⟨mg10, mg11⟩ := bg1.duo; clear bga lga bgb lgb bg3 lg3 bg2 lg2 bg1 lg1; clear hk))
          | (go_at_call 12; ((with_reducible refine (KL.out _ _ (hr.step (by go_grown))).mono ?_); rintro e w' ⟨rfl, hk⟩; (try clear hX); have hX := hk.2; (try clear mga0 mga1 mgb0 mgb1 mg30 mg31 mg20 mg21 mg10 mg11); obtain ⟨⟨bga, lga⟩, ⟨bgb, lgb⟩, ⟨bg3, lg3⟩, ⟨bg2, lg2⟩, ⟨bg1, lg1⟩, -⟩ := hB.below hk.2; obtain ⟨mga0, mga1⟩ := bga.duo; obtain ⟨mgb0, mgb1⟩ := bgb.duo; obtain ⟨mg30, mg31⟩ := bg3.duo; obtain ⟨mg20, mg21⟩ := bg2.duo; obtain ⟨mg10, mg11⟩ := bg1.duo; clear bga lga bgb lgb bg3 lg3 bg2 lg2 bg1 lg1; clear hk)))
      all_goals
        go_wp2_with fail
        go_ret
        exact ⟨rfl, oo.step hX⟩
end Go.Proofs.YtjgaoajbcbpbbaaDoor.end8
