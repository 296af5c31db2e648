/- The law on the next end and the one before: EndsNext. -/
import Derived.Test.YtjgaoajbcbpbbaaDoorEndNx
import Derived.Deep.RegionWith
namespace Go.Proofs.YtjgaoajbcbpbbaaDoor.end8
open Go.RowKit

set_option maxRecDepth 100000 in
set_option maxHeartbeats 8000000 in
theorem next_0 (d j e p q pe ec : Int) (w W : World) (KL : Hid (∀ B X, Ok B X → Calls Tryd.prog 12 #[] X fun x w' => x = .returned (.bool true) ∧ Ok B w')) (KN : Hid (∀ B X, Ok B X → Calls Tryd.prog 13 #[E2 0 d] X fun x w' => x = .returned (.tuple #[E2 0 (d + 1), .int .i64 0]) ∧ Ok B w')) (KP : Hid (∀ B X, Ok B X → Calls Tryd.prog 14 #[E2 0 d] X fun x w' => x = .returned (.tuple #[E2 p q, .int .i64 pe]) ∧ Ok B w')) (KRN : Hid (∀ B X, Ok B X → Calls Tryd.prog 15 #[E2 0 d] X fun x w' => x = .returned (.tuple #[E2 0 (d + 1), .int .i64 0]) ∧ Ok B w')) (KRP : Hid (∀ B X, Ok B X → Calls Tryd.prog 16 #[E2 0 d] X fun x w' => x = .returned (.tuple #[E2 p q, .int .i64 pe]) ∧ Ok B w')) (KC : Hid (∀ B X, Ok B X → Calls Tryd.prog 17 #[E2 0 d] X fun x w' => x = .returned (.int .i64 ec) ∧ Ok B w')) (KRC : Hid (∀ B X, Ok B X → Calls Tryd.prog 18 #[E2 0 d] X fun x w' => x = .returned (.int .i64 ec) ∧ Ok B w')) (KG1 : Hid (∀ B X, Ok B X → Calls Tryd.prog 19 #[E2 0 (d + 1), .int .i64 0, E2 0 (d + 1), .int .i64 0] X fun x w' => x = .returned (.bool true) ∧ Ok B w')) (KG2 : Hid (∀ B X, Ok B X → Calls Tryd.prog 19 #[E2 p q, .int .i64 pe, E2 p q, .int .i64 pe] X fun x w' => x = .returned (.bool true) ∧ Ok B w'))
    (KB : Hid (∀ B X, Ok B X → Calls Tryd.prog 14 #[E2 0 (d + 1)] X fun x w' => x = .returned (.tuple #[E2 0 d, .int .i64 0]) ∧ Ok B w')) (KG3 : Hid (∀ B X, Ok B X → Calls Tryd.prog 19 #[E2 0 d, .int .i64 0, E2 0 d, .int .i64 0] X fun x w' => x = .returned (.bool true) ∧ Ok B w')) (K1 : Hid (∀ B X, Ok B X → Calls Tryd.prog 8 #[E2 0 d, E2 j e] X fun x w' => x = .returned (.int .i64 0) ∧ Ok B w'))  (KO : Hid (∀ B X, Ok B X → Calls Tryd.prog 20 #[.int .i64 d] X fun x w' => x = .returned (E2 0 d) ∧ Ok B w'))
    (eA : Hid (∀ w, (binOp .eql 24 (E2 0 d) (E2 0 d)).run Tryd.prog w = .ok (.bool true) w))
     (ho : Ok w W) :
    Calls Tryd.prog 4 #[E2 0 d, E2 j e] W fun x w' => x = .returned (.bool true) ∧ Ok w w' := by
  have heE : (ec != ec) = false := by simp
  go_enter Tryd.func4, Tryd.ntmps4
  go_upto_region 1 with fail
  have hB := Bs.new (Bs.new (show Bs W [] from trivial) 0 d) j e
  rw [size_al] at hB
  have oo : Ok w ((W.alloc (Obj.cells #[Value.int IntKind.i8 0, Value.int IntKind.i64 d] 24)).alloc (Obj.cells #[Value.int IntKind.i8 j, Value.int IntKind.i64 e] 24)) := ho.step (by go_grown)
  generalize ((W.alloc (Obj.cells #[Value.int IntKind.i8 0, Value.int IntKind.i64 d] 24)).alloc (Obj.cells #[Value.int IntKind.i8 j, Value.int IntKind.i64 e] 24)) = W0 at *
  generalize W.heap.size + 1 = g2 at *
  generalize W.heap.size = g1 at *
  clear ho
  have hr := Ok.refl oo.1
  obtain ⟨⟨bg2, lg2⟩, ⟨bg1, lg1⟩, -⟩ := id hB
  obtain ⟨fg20, fg21⟩ := bg2.duo
  obtain ⟨fg10, fg11⟩ := bg1.duo
  clear bg2 lg2 bg1 lg1
  go_upto_region 2 with (go_at_call 13; ((with_reducible refine (KN.out _ _ hr).mono ?_); rintro e1 w3 ⟨rfl, hk3⟩))
  have hB' := Bs.new (hB.below hk3.2) 0 (d + 1)
  have o' := (oo.step hk3.2).step (end_new w3 0 (d + 1) _ rfl).2.2
  clear hB oo hr fg20 fg21 fg10 fg11
  generalize (w3.alloc (Obj.cells #[Value.int IntKind.i8 0, Value.int IntKind.i64 (d + 1)] 24)) = W3 at *
  generalize w3.heap.size = g3 at *
  clear hk3 KN
  have hB := hB'
  have oo := o'
  clear hB' o'
  have hr := Ok.refl oo.1
  obtain ⟨⟨bg3, lg3⟩, ⟨bg2, lg2⟩, ⟨bg1, lg1⟩, -⟩ := id hB
  obtain ⟨fg30, fg31⟩ := bg3.duo
  obtain ⟨fg20, fg21⟩ := bg2.duo
  obtain ⟨fg10, fg11⟩ := bg1.duo
  clear bg3 lg3 bg2 lg2 bg1 lg1
  go_upto_region 3 with (go_at_call 14; ((with_reducible refine (KP.out _ _ hr).mono ?_); rintro e1 w4 ⟨rfl, hk4⟩))
  have hB' := Bs.new (hB.below hk4.2) p q
  have o' := (oo.step hk4.2).step (end_new w4 p q _ rfl).2.2
  clear hB oo hr fg30 fg31 fg20 fg21 fg10 fg11
  generalize (w4.alloc (Obj.cells #[Value.int IntKind.i8 p, Value.int IntKind.i64 q] 24)) = W4 at *
  generalize w4.heap.size = g4 at *
  clear hk4 KP
  have hB := hB'
  have oo := o'
  clear hB' o'
  have hr := Ok.refl oo.1
  obtain ⟨⟨bg4, lg4⟩, ⟨bg3, lg3⟩, ⟨bg2, lg2⟩, ⟨bg1, lg1⟩, -⟩ := id hB
  obtain ⟨fg40, fg41⟩ := bg4.duo
  obtain ⟨fg30, fg31⟩ := bg3.duo
  obtain ⟨fg20, fg21⟩ := bg2.duo
  obtain ⟨fg10, fg11⟩ := bg1.duo
  clear bg4 lg4 bg3 lg3 bg2 lg2 bg1 lg1
  go_upto_region 4 with (go_at_call 15; ((with_reducible refine (KRN.out _ _ hr).mono ?_); rintro e1 w5 ⟨rfl, hk5⟩))
  have hB' := Bs.new (hB.below hk5.2) 0 (d + 1)
  have o' := (oo.step hk5.2).step (end_new w5 0 (d + 1) _ rfl).2.2
  clear hB oo hr fg40 fg41 fg30 fg31 fg20 fg21 fg10 fg11
  generalize (w5.alloc (Obj.cells #[Value.int IntKind.i8 0, Value.int IntKind.i64 (d + 1)] 24)) = W5 at *
  generalize w5.heap.size = g5 at *
  clear hk5 KRN
  have hB := hB'
  have oo := o'
  clear hB' o'
  have hr := Ok.refl oo.1
  obtain ⟨⟨bg5, lg5⟩, ⟨bg4, lg4⟩, ⟨bg3, lg3⟩, ⟨bg2, lg2⟩, ⟨bg1, lg1⟩, -⟩ := id hB
  obtain ⟨fg50, fg51⟩ := bg5.duo
  obtain ⟨fg40, fg41⟩ := bg4.duo
  obtain ⟨fg30, fg31⟩ := bg3.duo
  obtain ⟨fg20, fg21⟩ := bg2.duo
  obtain ⟨fg10, fg11⟩ := bg1.duo
  clear bg5 lg5 bg4 lg4 bg3 lg3 bg2 lg2 bg1 lg1
  go_upto_region 5 with (go_at_call 16; ((with_reducible refine (KRP.out _ _ hr).mono ?_); rintro e1 w6 ⟨rfl, hk6⟩))
  have hB' := Bs.new (hB.below hk6.2) p q
  have o' := (oo.step hk6.2).step (end_new w6 p q _ rfl).2.2
  clear hB oo hr fg50 fg51 fg40 fg41 fg30 fg31 fg20 fg21 fg10 fg11
  generalize (w6.alloc (Obj.cells #[Value.int IntKind.i8 p, Value.int IntKind.i64 q] 24)) = W6 at *
  generalize w6.heap.size = g6 at *
  clear hk6 KRP
  have hB := hB'
  have oo := o'
  clear hB' o'
  have hr := Ok.refl oo.1
  obtain ⟨⟨bg6, lg6⟩, ⟨bg5, lg5⟩, ⟨bg4, lg4⟩, ⟨bg3, lg3⟩, ⟨bg2, lg2⟩, ⟨bg1, lg1⟩, -⟩ := id hB
  obtain ⟨fg60, fg61⟩ := bg6.duo
  obtain ⟨fg50, fg51⟩ := bg5.duo
  obtain ⟨fg40, fg41⟩ := bg4.duo
  obtain ⟨fg30, fg31⟩ := bg3.duo
  obtain ⟨fg20, fg21⟩ := bg2.duo
  obtain ⟨fg10, fg11⟩ := bg1.duo
  clear bg6 lg6 bg5 lg5 bg4 lg4 bg3 lg3 bg2 lg2 bg1 lg1
  go_cut [55] (fun v wx => v = .bool false ∧ Below W6.heap.size W6 wx)
  case first =>
    have hee := heE
    go_region_held3 (fun x => x.cell? ⟨g6, 0, none⟩ = some (.int .i8 p) ∧ x.cell? ⟨g6, 1, none⟩ = some (.int .i64 q) ∧ x.cell? ⟨g5, 0, none⟩ = some (.int .i8 0) ∧ x.cell? ⟨g5, 1, none⟩ = some (.int .i64 (d + 1)) ∧ x.cell? ⟨g4, 0, none⟩ = some (.int .i8 p) ∧ x.cell? ⟨g4, 1, none⟩ = some (.int .i64 q) ∧ x.cell? ⟨g3, 0, none⟩ = some (.int .i8 0) ∧ x.cell? ⟨g3, 1, none⟩ = some (.int .i64 (d + 1)) ∧ x.cell? ⟨g2, 0, none⟩ = some (.int .i8 j) ∧ x.cell? ⟨g2, 1, none⟩ = some (.int .i64 e) ∧ x.cell? ⟨g1, 0, none⟩ = some (.int .i8 0) ∧ x.cell? ⟨g1, 1, none⟩ = some (.int .i64 d)) (go_keep)
      (first
        | (go_at_call 17; ((with_reducible refine (KC.out _ _ (hr.step (by go_grown))).mono ?_); rintro e1 w' ⟨rfl, hk⟩; (try clear hX); have hX := hk.2; (try clear mg60 mg61 mg50 mg51 mg40 mg41 mg30 mg31 mg20 mg21 mg10 mg11); obtain ⟨⟨bg6, lg6⟩, ⟨bg5, lg5⟩, ⟨bg4, lg4⟩, ⟨bg3, lg3⟩, ⟨bg2, lg2⟩, ⟨bg1, lg1⟩, -⟩ := hB.below hk.2; obtain ⟨mg60, mg61⟩ := bg6.duo; obtain ⟨mg50, mg51⟩ := bg5.duo; obtain ⟨mg40, mg41⟩ := bg4.duo; obtain ⟨mg30, mg31⟩ := bg3.duo; obtain ⟨mg20, mg21⟩ := bg2.duo; obtain ⟨mg10, mg11⟩ := bg1.duo; clear bg6 lg6 bg5 lg5 bg4 lg4 bg3 lg3 bg2 lg2 bg1 lg1; clear hk))
        | (go_at_call 18; ((with_reducible refine (KRC.out _ _ (hr.step (by go_grown))).mono ?_); rintro e1 w' ⟨rfl, hk⟩; (try clear hX); have hX := hk.2; (try clear mg60 mg61 mg50 mg51 mg40 mg41 mg30 mg31 mg20 mg21 mg10 mg11); obtain ⟨⟨bg6, lg6⟩, ⟨bg5, lg5⟩, ⟨bg4, lg4⟩, ⟨bg3, lg3⟩, ⟨bg2, lg2⟩, ⟨bg1, lg1⟩, -⟩ := hB.below hk.2; obtain ⟨mg60, mg61⟩ := bg6.duo; obtain ⟨mg50, mg51⟩ := bg5.duo; obtain ⟨mg40, mg41⟩ := bg4.duo; obtain ⟨mg30, mg31⟩ := bg3.duo; obtain ⟨mg20, mg21⟩ := bg2.duo; obtain ⟨mg10, mg11⟩ := bg1.duo; clear bg6 lg6 bg5 lg5 bg4 lg4 bg3 lg3 bg2 lg2 bg1 lg1; clear hk))
        | (go_at_call 19; ((with_reducible refine (KG1.out _ _ (hr.step (by go_grown))).mono ?_); rintro e1 w' ⟨rfl, hk⟩; (try clear hX); have hX := hk.2; (try clear mg60 mg61 mg50 mg51 mg40 mg41 mg30 mg31 mg20 mg21 mg10 mg11); obtain ⟨⟨bg6, lg6⟩, ⟨bg5, lg5⟩, ⟨bg4, lg4⟩, ⟨bg3, lg3⟩, ⟨bg2, lg2⟩, ⟨bg1, lg1⟩, -⟩ := hB.below hk.2; obtain ⟨mg60, mg61⟩ := bg6.duo; obtain ⟨mg50, mg51⟩ := bg5.duo; obtain ⟨mg40, mg41⟩ := bg4.duo; obtain ⟨mg30, mg31⟩ := bg3.duo; obtain ⟨mg20, mg21⟩ := bg2.duo; obtain ⟨mg10, mg11⟩ := bg1.duo; clear bg6 lg6 bg5 lg5 bg4 lg4 bg3 lg3 bg2 lg2 bg1 lg1; clear hk))
        | (go_at_call 19; ((with_reducible refine (KG2.out _ _ (hr.step (by go_grown))).mono ?_); rintro e1 w' ⟨rfl, hk⟩; (try clear hX); have hX := hk.2; (try clear mg60 mg61 mg50 mg51 mg40 mg41 mg30 mg31 mg20 mg21 mg10 mg11); obtain ⟨⟨bg6, lg6⟩, ⟨bg5, lg5⟩, ⟨bg4, lg4⟩, ⟨bg3, lg3⟩, ⟨bg2, lg2⟩, ⟨bg1, lg1⟩, -⟩ := hB.below hk.2; obtain ⟨mg60, mg61⟩ := bg6.duo; obtain ⟨mg50, mg51⟩ := bg5.duo; obtain ⟨mg40, mg41⟩ := bg4.duo; obtain ⟨mg30, mg31⟩ := bg3.duo; obtain ⟨mg20, mg21⟩ := bg2.duo; obtain ⟨mg10, mg11⟩ := bg1.duo; clear bg6 lg6 bg5 lg5 bg4 lg4 bg3 lg3 bg2 lg2 bg1 lg1; clear hk)))
    all_goals
      go_wp2_with fail
      go_meet
      exact ⟨rfl, hX⟩
  case rest =>
    obtain ⟨rfl, hX⟩ := hcut
    have ob := oo.step hX
    have hBb := hB.below hX
    clear oo hB hr hX KC KRC KG1 KG2 fg60 fg61 fg50 fg51 fg40 fg41 fg30 fg31 fg20 fg21 fg10 fg11
    have hr := Ok.refl ob.1
    have oo := ob
    have hB := hBb
    clear ob hBb
    obtain ⟨⟨bg6, lg6⟩, ⟨bg5, lg5⟩, ⟨bg4, lg4⟩, ⟨bg3, lg3⟩, ⟨bg2, lg2⟩, ⟨bg1, lg1⟩, -⟩ := id hB
    obtain ⟨fg60, fg61⟩ := bg6.duo
    obtain ⟨fg50, fg51⟩ := bg5.duo
    obtain ⟨fg40, fg41⟩ := bg4.duo
    obtain ⟨fg30, fg31⟩ := bg3.duo
    obtain ⟨fg20, fg21⟩ := bg2.duo
    obtain ⟨fg10, fg11⟩ := bg1.duo
    clear bg6 lg6 bg5 lg5 bg4 lg4 bg3 lg3 bg2 lg2 bg1 lg1
    go_upto_region 10 with (go_at_call 14; ((with_reducible refine (KB.out _ _ hr).mono ?_); rintro e1 w7 ⟨rfl, hk7⟩))
    have hB' := Bs.new (hB.below hk7.2) 0 d
    have o' := (oo.step hk7.2).step (end_new w7 0 d _ rfl).2.2
    clear hB oo hr fg60 fg61 fg50 fg51 fg40 fg41 fg30 fg31 fg20 fg21 fg10 fg11
    generalize (w7.alloc (Obj.cells #[Value.int IntKind.i8 0, Value.int IntKind.i64 d] 24)) = W7 at *
    generalize w7.heap.size = g7 at *
    clear hk7 KB
    have hB := hB'
    have oo := o'
    clear hB' o'
    have hr := Ok.refl oo.1
    obtain ⟨⟨bg7, lg7⟩, ⟨bg6, lg6⟩, ⟨bg5, lg5⟩, ⟨bg4, lg4⟩, ⟨bg3, lg3⟩, ⟨bg2, lg2⟩, ⟨bg1, lg1⟩, -⟩ := id hB
    obtain ⟨fg70, fg71⟩ := bg7.duo
    obtain ⟨fg60, fg61⟩ := bg6.duo
    obtain ⟨fg50, fg51⟩ := bg5.duo
    obtain ⟨fg40, fg41⟩ := bg4.duo
    obtain ⟨fg30, fg31⟩ := bg3.duo
    obtain ⟨fg20, fg21⟩ := bg2.duo
    obtain ⟨fg10, fg11⟩ := bg1.duo
    clear bg7 lg7 bg6 lg6 bg5 lg5 bg4 lg4 bg3 lg3 bg2 lg2 bg1 lg1
    have q1 := eA.out
    refine wp_region_noPanic ?_
    refine wp_region_held_drew (S := (fun x => x.cell? ⟨g7, 0, none⟩ = some (.int .i8 0) ∧ x.cell? ⟨g7, 1, none⟩ = some (.int .i64 d) ∧ x.cell? ⟨g3, 0, none⟩ = some (.int .i8 0) ∧ x.cell? ⟨g3, 1, none⟩ = some (.int .i64 (d + 1)) ∧ x.cell? ⟨g2, 0, none⟩ = some (.int .i8 j) ∧ x.cell? ⟨g2, 1, none⟩ = some (.int .i64 e) ∧ x.cell? ⟨g1, 0, none⟩ = some (.int .i8 0) ∧ x.cell? ⟨g1, 1, none⟩ = some (.int .i64 d))) (by kernel_rfl) ?_ (fun hHeld => ?_)
    · (try dsimp only)
      go_keep
    refine wpAnyH_take (i := 0) (oi := ?oi0x) (v := ?v0x) ?hi0x (by kernel_rfl) (by kernel_rfl) (by kernel_rfl) ?hQ0x ?hy0x (by assumption) ?rest0x
    case hi0x => (simp only [List.getElem?_toArray, List.getElem?_cons_zero]; rfl)
    case hQ0x => exact fun _ _ _ h => h
    case hy0x => exact Or.inl ⟨by rfl, by (intro w hSw; (try dsimp only at hSw); go_simp; try with_reducible rfl)⟩
    (try simp only [Act.put, List.setIfInBounds_toArray, List.set_cons_zero, List.set_cons_succ])
    refine wpAnyH_take (i := 1) (oi := ?oi1x) (v := ?v1x) ?hi1x (by kernel_rfl) (by kernel_rfl) (by kernel_rfl) ?hQ1x ?hy1x (by assumption) ?rest1x
    case hi1x => (simp only [List.getElem?_toArray, List.getElem?_cons_succ, List.getElem?_cons_zero]; rfl)
    case hQ1x => exact fun _ _ _ h => h
    case hy1x => exact Or.inl ⟨by rfl, by (intro w hSw; (try dsimp only at hSw); go_simp; try with_reducible rfl)⟩
    (try simp only [Act.put, List.setIfInBounds_toArray, List.set_cons_zero, List.set_cons_succ])
    refine wpAnyH_take (i := 2) (oi := ?oi2x) (v := ?v2x) ?hi2x (by kernel_rfl) (by kernel_rfl) (by kernel_rfl) ?hQ2x ?hy2x (by assumption) ?rest2x
    case hi2x => (simp only [List.getElem?_toArray, List.getElem?_cons_succ, List.getElem?_cons_zero]; rfl)
    case hQ2x => exact fun _ _ _ h => h
    case hy2x => exact Or.inl ⟨by rfl, by (intro w hSw; (try dsimp only at hSw); go_simp; try with_reducible rfl)⟩
    (try simp only [Act.put, List.setIfInBounds_toArray, List.set_cons_zero, List.set_cons_succ])
    refine wpAnyH_ready (rs := [3]) (by kernel_rfl) (by simp) ?_
    refine AllReadyH.cons (o := ?oi3x) ?ho3x ?hK3x AllReadyH.nil
    case ho3x => (simp only [List.getElem?_toArray, List.getElem?_cons_succ, List.getElem?_cons_zero]; rfl)
    intro K hK
    go_simp
    (first
        | (go_at_call 19; ((with_reducible refine (KG3.out _ _ (hr.step (by go_grown))).mono ?_); rintro e1 w' ⟨rfl, hk⟩; (try clear hX); have hX := hk.2; (try clear mg70 mg71 mg60 mg61 mg50 mg51 mg40 mg41 mg30 mg31 mg20 mg21 mg10 mg11); obtain ⟨⟨bg7, lg7⟩, ⟨bg6, lg6⟩, ⟨bg5, lg5⟩, ⟨bg4, lg4⟩, ⟨bg3, lg3⟩, ⟨bg2, lg2⟩, ⟨bg1, lg1⟩, -⟩ := hB.below hk.2; obtain ⟨mg70, mg71⟩ := bg7.duo; obtain ⟨mg60, mg61⟩ := bg6.duo; obtain ⟨mg50, mg51⟩ := bg5.duo; obtain ⟨mg40, mg41⟩ := bg4.duo; obtain ⟨mg30, mg31⟩ := bg3.duo; obtain ⟨mg20, mg21⟩ := bg2.duo; obtain ⟨mg10, mg11⟩ := bg1.duo; clear bg7 lg7 bg6 lg6 bg5 lg5 bg4 lg4 bg3 lg3 bg2 lg2 bg1 lg1; clear hk))
        | (go_at_call 8; ((with_reducible refine (K1.out _ _ (hr.step (by go_grown))).mono ?_); rintro e1 w' ⟨rfl, hk⟩; (try clear hX); have hX := hk.2; (try clear mg70 mg71 mg60 mg61 mg50 mg51 mg40 mg41 mg30 mg31 mg20 mg21 mg10 mg11); obtain ⟨⟨bg7, lg7⟩, ⟨bg6, lg6⟩, ⟨bg5, lg5⟩, ⟨bg4, lg4⟩, ⟨bg3, lg3⟩, ⟨bg2, lg2⟩, ⟨bg1, lg1⟩, -⟩ := hB.below hk.2; obtain ⟨mg70, mg71⟩ := bg7.duo; obtain ⟨mg60, mg61⟩ := bg6.duo; obtain ⟨mg50, mg51⟩ := bg5.duo; obtain ⟨mg40, mg41⟩ := bg4.duo; obtain ⟨mg30, mg31⟩ := bg3.duo; obtain ⟨mg20, mg21⟩ := bg2.duo; obtain ⟨mg10, mg11⟩ := bg1.duo; clear bg7 lg7 bg6 lg6 bg5 lg5 bg4 lg4 bg3 lg3 bg2 lg2 bg1 lg1; clear hk))
        | (go_at_call 20; ((with_reducible refine (KO.out _ _ (hr.step (by go_grown))).mono ?_); rintro e1 w' ⟨rfl, hk⟩; (try clear hX); have hX := hk.2; (try clear mg70 mg71 mg60 mg61 mg50 mg51 mg40 mg41 mg30 mg31 mg20 mg21 mg10 mg11); obtain ⟨⟨bg7, lg7⟩, ⟨bg6, lg6⟩, ⟨bg5, lg5⟩, ⟨bg4, lg4⟩, ⟨bg3, lg3⟩, ⟨bg2, lg2⟩, ⟨bg1, lg1⟩, -⟩ := hB.below hk.2; obtain ⟨mg70, mg71⟩ := bg7.duo; obtain ⟨mg60, mg61⟩ := bg6.duo; obtain ⟨mg50, mg51⟩ := bg5.duo; obtain ⟨mg40, mg41⟩ := bg4.duo; obtain ⟨mg30, mg31⟩ := bg3.duo; obtain ⟨mg20, mg21⟩ := bg2.duo; obtain ⟨mg10, mg11⟩ := bg1.duo; clear bg7 lg7 bg6 lg6 bg5 lg5 bg4 lg4 bg3 lg3 bg2 lg2 bg1 lg1; clear hk))
        | (go_at_call 12; ((with_reducible refine (KL.out _ _ (hr.step (by go_grown))).mono ?_); rintro e1 w' ⟨rfl, hk⟩; (try clear hX); have hX := hk.2; (try clear mg70 mg71 mg60 mg61 mg50 mg51 mg40 mg41 mg30 mg31 mg20 mg21 mg10 mg11); obtain ⟨⟨bg7, lg7⟩, ⟨bg6, lg6⟩, ⟨bg5, lg5⟩, ⟨bg4, lg4⟩, ⟨bg3, lg3⟩, ⟨bg2, lg2⟩, ⟨bg1, lg1⟩, -⟩ := hB.below hk.2; obtain ⟨mg70, mg71⟩ := bg7.duo; obtain ⟨mg60, mg61⟩ := bg6.duo; obtain ⟨mg50, mg51⟩ := bg5.duo; obtain ⟨mg40, mg41⟩ := bg4.duo; obtain ⟨mg30, mg31⟩ := bg3.duo; obtain ⟨mg20, mg21⟩ := bg2.duo; obtain ⟨mg10, mg11⟩ := bg1.duo; clear bg7 lg7 bg6 lg6 bg5 lg5 bg4 lg4 bg3 lg3 bg2 lg2 bg1 lg1; clear hk)))
    (try go_wp2_with fail)
    refine hK.out _ _ ?_ (fun hHeld => ?_)
    · (try dsimp only)
      go_keep
    clear hK K
    (try simp only [Act.put, List.setIfInBounds_toArray, List.set_cons_zero, List.set_cons_succ])
    refine wpAnyH_take (i := 4) (oi := ?oi4x) (v := ?v4x) ?hi4x (by kernel_rfl) (by kernel_rfl) (by kernel_rfl) ?hQ4x ?hy4x (by assumption) ?rest4x
    case hi4x => (simp only [List.getElem?_toArray, List.getElem?_cons_succ, List.getElem?_cons_zero]; rfl)
    case hQ4x => exact fun _ _ _ h => h
    case hy4x => exact Or.inl ⟨by rfl, by (intro w hSw; (try dsimp only at hSw); go_simp; try with_reducible rfl)⟩
    (try simp only [Act.put, List.setIfInBounds_toArray, List.set_cons_zero, List.set_cons_succ])
    refine wpAnyH_take (i := 5) (oi := ?oi5x) (v := ?v5x) ?hi5x (by kernel_rfl) (by kernel_rfl) (by kernel_rfl) ?hQ5x ?hy5x (by assumption) ?rest5x
    case hi5x => (simp only [List.getElem?_toArray, List.getElem?_cons_succ, List.getElem?_cons_zero]; rfl)
    case hQ5x => exact fun _ _ _ h => h
    case hy5x => exact Or.inl ⟨by rfl, by (intro w hSw; (try dsimp only at hSw); go_simp; try with_reducible rfl)⟩
    (try simp only [Act.put, List.setIfInBounds_toArray, List.set_cons_zero, List.set_cons_succ])
    refine wpAnyH_take (i := 6) (oi := ?oi6x) (v := ?v6x) ?hi6x (by kernel_rfl) (by kernel_rfl) (by kernel_rfl) ?hQ6x ?hy6x (by assumption) ?rest6x
    case hi6x => (simp only [List.getElem?_toArray, List.getElem?_cons_succ, List.getElem?_cons_zero]; rfl)
    case hQ6x => exact fun _ _ _ h => h
    case hy6x => exact Or.inl ⟨by rfl, by (intro w hSw; (try dsimp only at hSw); go_simp; try with_reducible rfl)⟩
    (try simp only [Act.put, List.setIfInBounds_toArray, List.set_cons_zero, List.set_cons_succ])
    refine wpAnyH_ready (rs := [7]) (by kernel_rfl) (by simp) ?_
    refine AllReadyH.cons (o := ?oi7x) ?ho7x ?hK7x AllReadyH.nil
    case ho7x => (simp only [List.getElem?_toArray, List.getElem?_cons_succ, List.getElem?_cons_zero]; rfl)
    intro K hK
    go_simp
    (first
        | (go_at_call 19; ((with_reducible refine (KG3.out _ _ (hr.step (by go_grown))).mono ?_); rintro e1 w' ⟨rfl, hk⟩; (try clear hX); have hX := hk.2; (try clear mg70 mg71 mg60 mg61 mg50 mg51 mg40 mg41 mg30 mg31 mg20 mg21 mg10 mg11); obtain ⟨⟨bg7, lg7⟩, ⟨bg6, lg6⟩, ⟨bg5, lg5⟩, ⟨bg4, lg4⟩, ⟨bg3, lg3⟩, ⟨bg2, lg2⟩, ⟨bg1, lg1⟩, -⟩ := hB.below hk.2; obtain ⟨mg70, mg71⟩ := bg7.duo; obtain ⟨mg60, mg61⟩ := bg6.duo; obtain ⟨mg50, mg51⟩ := bg5.duo; obtain ⟨mg40, mg41⟩ := bg4.duo; obtain ⟨mg30, mg31⟩ := bg3.duo; obtain ⟨mg20, mg21⟩ := bg2.duo; obtain ⟨mg10, mg11⟩ := bg1.duo; clear bg7 lg7 bg6 lg6 bg5 lg5 bg4 lg4 bg3 lg3 bg2 lg2 bg1 lg1; clear hk))
        | (go_at_call 8; ((with_reducible refine (K1.out _ _ (hr.step (by go_grown))).mono ?_); rintro e1 w' ⟨rfl, hk⟩; (try clear hX); have hX := hk.2; (try clear mg70 mg71 mg60 mg61 mg50 mg51 mg40 mg41 mg30 mg31 mg20 mg21 mg10 mg11); obtain ⟨⟨bg7, lg7⟩, ⟨bg6, lg6⟩, ⟨bg5, lg5⟩, ⟨bg4, lg4⟩, ⟨bg3, lg3⟩, ⟨bg2, lg2⟩, ⟨bg1, lg1⟩, -⟩ := hB.below hk.2; obtain ⟨mg70, mg71⟩ := bg7.duo; obtain ⟨mg60, mg61⟩ := bg6.duo; obtain ⟨mg50, mg51⟩ := bg5.duo; obtain ⟨mg40, mg41⟩ := bg4.duo; obtain ⟨mg30, mg31⟩ := bg3.duo; obtain ⟨mg20, mg21⟩ := bg2.duo; obtain ⟨mg10, mg11⟩ := bg1.duo; clear bg7 lg7 bg6 lg6 bg5 lg5 bg4 lg4 bg3 lg3 bg2 lg2 bg1 lg1; clear hk))
        | (go_at_call 20; ((with_reducible refine (KO.out _ _ (hr.step (by go_grown))).mono ?_); rintro e1 w' ⟨rfl, hk⟩; (try clear hX); have hX := hk.2; (try clear mg70 mg71 mg60 mg61 mg50 mg51 mg40 mg41 mg30 mg31 mg20 mg21 mg10 mg11); obtain ⟨⟨bg7, lg7⟩, ⟨bg6, lg6⟩, ⟨bg5, lg5⟩, ⟨bg4, lg4⟩, ⟨bg3, lg3⟩, ⟨bg2, lg2⟩, ⟨bg1, lg1⟩, -⟩ := hB.below hk.2; obtain ⟨mg70, mg71⟩ := bg7.duo; obtain ⟨mg60, mg61⟩ := bg6.duo; obtain ⟨mg50, mg51⟩ := bg5.duo; obtain ⟨mg40, mg41⟩ := bg4.duo; obtain ⟨mg30, mg31⟩ := bg3.duo; obtain ⟨mg20, mg21⟩ := bg2.duo; obtain ⟨mg10, mg11⟩ := bg1.duo; clear bg7 lg7 bg6 lg6 bg5 lg5 bg4 lg4 bg3 lg3 bg2 lg2 bg1 lg1; clear hk))
        | (go_at_call 12; ((with_reducible refine (KL.out _ _ (hr.step (by go_grown))).mono ?_); rintro e1 w' ⟨rfl, hk⟩; (try clear hX); have hX := hk.2; (try clear mg70 mg71 mg60 mg61 mg50 mg51 mg40 mg41 mg30 mg31 mg20 mg21 mg10 mg11); obtain ⟨⟨bg7, lg7⟩, ⟨bg6, lg6⟩, ⟨bg5, lg5⟩, ⟨bg4, lg4⟩, ⟨bg3, lg3⟩, ⟨bg2, lg2⟩, ⟨bg1, lg1⟩, -⟩ := hB.below hk.2; obtain ⟨mg70, mg71⟩ := bg7.duo; obtain ⟨mg60, mg61⟩ := bg6.duo; obtain ⟨mg50, mg51⟩ := bg5.duo; obtain ⟨mg40, mg41⟩ := bg4.duo; obtain ⟨mg30, mg31⟩ := bg3.duo; obtain ⟨mg20, mg21⟩ := bg2.duo; obtain ⟨mg10, mg11⟩ := bg1.duo; clear bg7 lg7 bg6 lg6 bg5 lg5 bg4 lg4 bg3 lg3 bg2 lg2 bg1 lg1; clear hk)))
    (try go_wp2_with fail)
    refine hK.out _ _ ?_ (fun hHeld => ?_)
    · (try dsimp only)
      go_keep
    clear hK K
    (try simp only [Act.put, List.setIfInBounds_toArray, List.set_cons_zero, List.set_cons_succ])
    refine wpAnyH_take (i := 8) (oi := ?oi8x) (v := ?v8x) ?hi8x (by kernel_rfl) (by kernel_rfl) (by kernel_rfl) ?hQ8x ?hy8x (by assumption) ?rest8x
    case hi8x => (simp only [List.getElem?_toArray, List.getElem?_cons_succ, List.getElem?_cons_zero]; rfl)
    case hQ8x => exact fun _ _ _ h => h
    case hy8x => exact Or.inl ⟨by rfl, by (intro w hSw; (try dsimp only at hSw); go_simp; try with_reducible rfl)⟩
    (try simp only [Act.put, List.setIfInBounds_toArray, List.set_cons_zero, List.set_cons_succ])
    refine wpAnyH_take (i := 9) (oi := ?oi9x) (v := ?v9x) ?hi9x (by kernel_rfl) (by kernel_rfl) (by kernel_rfl) ?hQ9x ?hy9x (by assumption) ?rest9x
    case hi9x => (simp only [List.getElem?_toArray, List.getElem?_cons_succ, List.getElem?_cons_zero]; rfl)
    case hQ9x => exact fun _ _ _ h => h
    case hy9x => exact Or.inl ⟨by rfl, by (intro w hSw; (try dsimp only at hSw); go_simp; try with_reducible rfl)⟩
    (try simp only [Act.put, List.setIfInBounds_toArray, List.set_cons_zero, List.set_cons_succ])
    refine wpAnyH_take (i := 10) (oi := ?oi10x) (v := undef) ?hi10x (by kernel_rfl) (by kernel_rfl) (by kernel_rfl) ?hQ10x ?hy10x (by assumption) ?rest10x
    case hi10x => (simp only [List.getElem?_toArray, List.getElem?_cons_succ, List.getElem?_cons_zero]; rfl)
    case hQ10x => exact fun _ _ _ h => h
    case hy10x => exact Or.inr ⟨by rfl, rfl⟩
    (try simp only [Act.put, List.setIfInBounds_toArray, List.set_cons_zero, List.set_cons_succ])
    refine wpAnyH_take (i := 11) (oi := ?oi11x) (v := undef) ?hi11x (by kernel_rfl) (by kernel_rfl) (by kernel_rfl) ?hQ11x ?hy11x (by assumption) ?rest11x
    case hi11x => (simp only [List.getElem?_toArray, List.getElem?_cons_succ, List.getElem?_cons_zero]; rfl)
    case hQ11x => exact fun _ _ _ h => h
    case hy11x => exact Or.inr ⟨by rfl, rfl⟩
    (try simp only [Act.put, List.setIfInBounds_toArray, List.set_cons_zero, List.set_cons_succ])
    refine wpAnyH_ready (rs := [12]) (by kernel_rfl) (by simp) ?_
    refine AllReadyH.cons (o := ?oi12x) ?ho12x ?hK12x AllReadyH.nil
    case ho12x => (simp only [List.getElem?_toArray, List.getElem?_cons_succ, List.getElem?_cons_zero]; rfl)
    intro K hK
    go_simp
    refine hK.out _ _ (by assumption) (fun _ => ?_)
    clear hK K
    (try simp only [Act.put, List.setIfInBounds_toArray, List.set_cons_zero, List.set_cons_succ])
    refine wpAnyH_take (i := 13) (oi := ?oi13x) (v := undef) ?hi13x (by kernel_rfl) (by kernel_rfl) (by kernel_rfl) ?hQ13x ?hy13x (by assumption) ?rest13x
    case hi13x => (simp only [List.getElem?_toArray, List.getElem?_cons_succ, List.getElem?_cons_zero]; rfl)
    case hQ13x => exact fun _ _ _ h => h
    case hy13x => exact Or.inr ⟨by rfl, rfl⟩
    (try simp only [Act.put, List.setIfInBounds_toArray, List.set_cons_zero, List.set_cons_succ])
    refine wpAnyH_take (i := 14) (oi := ?oi14x) (v := ?v14x) ?hi14x (by kernel_rfl) (by kernel_rfl) (by kernel_rfl) ?hQ14x ?hy14x (by assumption) ?rest14x
    case hi14x => (simp only [List.getElem?_toArray, List.getElem?_cons_succ, List.getElem?_cons_zero]; rfl)
    case hQ14x => exact fun _ _ _ h => h
    case hy14x => exact Or.inl ⟨by rfl, by (intro w hSw; (try dsimp only at hSw); go_simp; try with_reducible rfl)⟩
    (try simp only [Act.put, List.setIfInBounds_toArray, List.set_cons_zero, List.set_cons_succ])
    refine wpAnyH_take (i := 15) (oi := ?oi15x) (v := ?v15x) ?hi15x (by kernel_rfl) (by kernel_rfl) (by kernel_rfl) ?hQ15x ?hy15x (by assumption) ?rest15x
    case hi15x => (simp only [List.getElem?_toArray, List.getElem?_cons_succ, List.getElem?_cons_zero]; rfl)
    case hQ15x => exact fun _ _ _ h => h
    case hy15x => exact Or.inl ⟨by rfl, by (intro w hSw; (try dsimp only at hSw); go_simp; try with_reducible rfl)⟩
    (try simp only [Act.put, List.setIfInBounds_toArray, List.set_cons_zero, List.set_cons_succ])
    refine wpAnyH_take (i := 16) (oi := ?oi16x) (v := ?v16x) ?hi16x (by kernel_rfl) (by kernel_rfl) (by kernel_rfl) ?hQ16x ?hy16x (by assumption) ?rest16x
    case hi16x => (simp only [List.getElem?_toArray, List.getElem?_cons_succ, List.getElem?_cons_zero]; rfl)
    case hQ16x => exact fun _ _ _ h => h
    case hy16x => exact Or.inl ⟨by rfl, by (intro w hSw; (try dsimp only at hSw); go_simp; try with_reducible rfl)⟩
    (try simp only [Act.put, List.setIfInBounds_toArray, List.set_cons_zero, List.set_cons_succ])
    refine wpAnyH_take (i := 17) (oi := ?oi17x) (v := ?v17x) ?hi17x (by kernel_rfl) (by kernel_rfl) (by kernel_rfl) ?hQ17x ?hy17x (by assumption) ?rest17x
    case hi17x => (simp only [List.getElem?_toArray, List.getElem?_cons_succ, List.getElem?_cons_zero]; rfl)
    case hQ17x => exact fun _ _ _ h => h
    case hy17x => exact Or.inl ⟨by rfl, by (intro w hSw; (try dsimp only at hSw); go_simp; try with_reducible rfl)⟩
    (try simp only [Act.put, List.setIfInBounds_toArray, List.set_cons_zero, List.set_cons_succ])
    refine wpAnyH_take (i := 18) (oi := ?oi18x) (v := ?v18x) ?hi18x (by kernel_rfl) (by kernel_rfl) (by kernel_rfl) ?hQ18x ?hy18x (by assumption) ?rest18x
    case hi18x => (simp only [List.getElem?_toArray, List.getElem?_cons_succ, List.getElem?_cons_zero]; rfl)
    case hQ18x => exact fun _ _ _ h => h
    case hy18x => exact Or.inl ⟨by rfl, by (intro w hSw; (try dsimp only at hSw); go_simp; try with_reducible rfl)⟩
    (try simp only [Act.put, List.setIfInBounds_toArray, List.set_cons_zero, List.set_cons_succ])
    refine wpAnyH_take (i := 20) (oi := ?oi20x) (v := ?v20x) ?hi20x (by kernel_rfl) (by kernel_rfl) (by kernel_rfl) ?hQ20x ?hy20x (by assumption) ?rest20x
    case hi20x => (simp only [List.getElem?_toArray, List.getElem?_cons_succ, List.getElem?_cons_zero]; rfl)
    case hQ20x => exact fun _ _ _ h => h
    case hy20x => exact Or.inl ⟨by rfl, by (intro w hSw; (try dsimp only at hSw); go_simp; try with_reducible rfl)⟩
    (try simp only [Act.put, List.setIfInBounds_toArray, List.set_cons_zero, List.set_cons_succ])
    refine wpAnyH_ready (rs := [19]) (by kernel_rfl) (by simp) ?_
    refine AllReadyH.cons (o := ?oi19x) ?ho19x ?hK19x AllReadyH.nil
    case ho19x => (simp only [List.getElem?_toArray, List.getElem?_cons_succ, List.getElem?_cons_zero]; rfl)
    intro K hK
    go_simp
    (first
        | (go_at_call 19; ((with_reducible refine (KG3.out _ _ (hr.step (by go_grown))).mono ?_); rintro e1 w' ⟨rfl, hk⟩; (try clear hX); have hX := hk.2; (try clear mg70 mg71 mg60 mg61 mg50 mg51 mg40 mg41 mg30 mg31 mg20 mg21 mg10 mg11); obtain ⟨⟨bg7, lg7⟩, ⟨bg6, lg6⟩, ⟨bg5, lg5⟩, ⟨bg4, lg4⟩, ⟨bg3, lg3⟩, ⟨bg2, lg2⟩, ⟨bg1, lg1⟩, -⟩ := hB.below hk.2; obtain ⟨mg70, mg71⟩ := bg7.duo; obtain ⟨mg60, mg61⟩ := bg6.duo; obtain ⟨mg50, mg51⟩ := bg5.duo; obtain ⟨mg40, mg41⟩ := bg4.duo; obtain ⟨mg30, mg31⟩ := bg3.duo; obtain ⟨mg20, mg21⟩ := bg2.duo; obtain ⟨mg10, mg11⟩ := bg1.duo; clear bg7 lg7 bg6 lg6 bg5 lg5 bg4 lg4 bg3 lg3 bg2 lg2 bg1 lg1; clear hk))
        | (go_at_call 8; ((with_reducible refine (K1.out _ _ (hr.step (by go_grown))).mono ?_); rintro e1 w' ⟨rfl, hk⟩; (try clear hX); have hX := hk.2; (try clear mg70 mg71 mg60 mg61 mg50 mg51 mg40 mg41 mg30 mg31 mg20 mg21 mg10 mg11); obtain ⟨⟨bg7, lg7⟩, ⟨bg6, lg6⟩, ⟨bg5, lg5⟩, ⟨bg4, lg4⟩, ⟨bg3, lg3⟩, ⟨bg2, lg2⟩, ⟨bg1, lg1⟩, -⟩ := hB.below hk.2; obtain ⟨mg70, mg71⟩ := bg7.duo; obtain ⟨mg60, mg61⟩ := bg6.duo; obtain ⟨mg50, mg51⟩ := bg5.duo; obtain ⟨mg40, mg41⟩ := bg4.duo; obtain ⟨mg30, mg31⟩ := bg3.duo; obtain ⟨mg20, mg21⟩ := bg2.duo; obtain ⟨mg10, mg11⟩ := bg1.duo; clear bg7 lg7 bg6 lg6 bg5 lg5 bg4 lg4 bg3 lg3 bg2 lg2 bg1 lg1; clear hk))
        | (go_at_call 20; ((with_reducible refine (KO.out _ _ (hr.step (by go_grown))).mono ?_); rintro e1 w' ⟨rfl, hk⟩; (try clear hX); have hX := hk.2; (try clear mg70 mg71 mg60 mg61 mg50 mg51 mg40 mg41 mg30 mg31 mg20 mg21 mg10 mg11); obtain ⟨⟨bg7, lg7⟩, ⟨bg6, lg6⟩, ⟨bg5, lg5⟩, ⟨bg4, lg4⟩, ⟨bg3, lg3⟩, ⟨bg2, lg2⟩, ⟨bg1, lg1⟩, -⟩ := hB.below hk.2; obtain ⟨mg70, mg71⟩ := bg7.duo; obtain ⟨mg60, mg61⟩ := bg6.duo; obtain ⟨mg50, mg51⟩ := bg5.duo; obtain ⟨mg40, mg41⟩ := bg4.duo; obtain ⟨mg30, mg31⟩ := bg3.duo; obtain ⟨mg20, mg21⟩ := bg2.duo; obtain ⟨mg10, mg11⟩ := bg1.duo; clear bg7 lg7 bg6 lg6 bg5 lg5 bg4 lg4 bg3 lg3 bg2 lg2 bg1 lg1; clear hk))
        | (go_at_call 12; ((with_reducible refine (KL.out _ _ (hr.step (by go_grown))).mono ?_); rintro e1 w' ⟨rfl, hk⟩; (try clear hX); have hX := hk.2; (try clear mg70 mg71 mg60 mg61 mg50 mg51 mg40 mg41 mg30 mg31 mg20 mg21 mg10 mg11); obtain ⟨⟨bg7, lg7⟩, ⟨bg6, lg6⟩, ⟨bg5, lg5⟩, ⟨bg4, lg4⟩, ⟨bg3, lg3⟩, ⟨bg2, lg2⟩, ⟨bg1, lg1⟩, -⟩ := hB.below hk.2; obtain ⟨mg70, mg71⟩ := bg7.duo; obtain ⟨mg60, mg61⟩ := bg6.duo; obtain ⟨mg50, mg51⟩ := bg5.duo; obtain ⟨mg40, mg41⟩ := bg4.duo; obtain ⟨mg30, mg31⟩ := bg3.duo; obtain ⟨mg20, mg21⟩ := bg2.duo; obtain ⟨mg10, mg11⟩ := bg1.duo; clear bg7 lg7 bg6 lg6 bg5 lg5 bg4 lg4 bg3 lg3 bg2 lg2 bg1 lg1; clear hk)))
    (try go_wp2_with fail)
    refine hK.out _ _ ?_ (fun hHeld => ?_)
    · (try dsimp only)
      go_keep
    clear hK K
    (try simp only [Act.put, List.setIfInBounds_toArray, List.set_cons_zero, List.set_cons_succ])
    refine wpAnyH_take (i := 21) (oi := ?oi21x) (v := ?v21x) ?hi21x (by kernel_rfl) (by kernel_rfl) (by kernel_rfl) ?hQ21x ?hy21x (by assumption) ?rest21x
    case hi21x => (simp only [List.getElem?_toArray, List.getElem?_cons_succ, List.getElem?_cons_zero]; rfl)
    case hQ21x => exact fun _ _ _ h => h
    case hy21x => exact Or.inl ⟨by rfl, by (intro w hSw; (try dsimp only at hSw); go_simp; try with_reducible rfl)⟩
    (try simp only [Act.put, List.setIfInBounds_toArray, List.set_cons_zero, List.set_cons_succ])
    refine wpAnyH_take (i := 22) (oi := ?oi22x) (v := ?v22x) ?hi22x (by kernel_rfl) (by kernel_rfl) (by kernel_rfl) ?hQ22x ?hy22x (by assumption) ?rest22x
    case hi22x => (simp only [List.getElem?_toArray, List.getElem?_cons_succ, List.getElem?_cons_zero]; rfl)
    case hQ22x => exact fun _ _ _ h => h
    case hy22x => exact Or.inl ⟨by rfl, by (intro w hSw; (try dsimp only at hSw); go_simp; try with_reducible rfl)⟩
    (try simp only [Act.put, List.setIfInBounds_toArray, List.set_cons_zero, List.set_cons_succ])
    refine wpAnyH_take (i := 23) (oi := ?oi23x) (v := ?v23x) ?hi23x (by kernel_rfl) (by kernel_rfl) (by kernel_rfl) ?hQ23x ?hy23x (by assumption) ?rest23x
    case hi23x => (simp only [List.getElem?_toArray, List.getElem?_cons_succ, List.getElem?_cons_zero]; rfl)
    case hQ23x => exact fun _ _ _ h => h
    case hy23x => exact Or.inl ⟨by rfl, by (intro w hSw; (try dsimp only at hSw); go_simp; try with_reducible rfl)⟩
    (try simp only [Act.put, List.setIfInBounds_toArray, List.set_cons_zero, List.set_cons_succ])
    refine wpAnyH_ready (rs := [24]) (by kernel_rfl) (by simp) ?_
    refine AllReadyH.cons (o := ?oi24x) ?ho24x ?hK24x AllReadyH.nil
    case ho24x => (simp only [List.getElem?_toArray, List.getElem?_cons_succ, List.getElem?_cons_zero]; rfl)
    intro K hK
    go_simp
    (first
        | (go_at_call 19; ((with_reducible refine (KG3.out _ _ (hr.step (by go_grown))).mono ?_); rintro e1 w' ⟨rfl, hk⟩; (try clear hX); have hX := hk.2; (try clear mg70 mg71 mg60 mg61 mg50 mg51 mg40 mg41 mg30 mg31 mg20 mg21 mg10 mg11); obtain ⟨⟨bg7, lg7⟩, ⟨bg6, lg6⟩, ⟨bg5, lg5⟩, ⟨bg4, lg4⟩, ⟨bg3, lg3⟩, ⟨bg2, lg2⟩, ⟨bg1, lg1⟩, -⟩ := hB.below hk.2; obtain ⟨mg70, mg71⟩ := bg7.duo; obtain ⟨mg60, mg61⟩ := bg6.duo; obtain ⟨mg50, mg51⟩ := bg5.duo; obtain ⟨mg40, mg41⟩ := bg4.duo; obtain ⟨mg30, mg31⟩ := bg3.duo; obtain ⟨mg20, mg21⟩ := bg2.duo; obtain ⟨mg10, mg11⟩ := bg1.duo; clear bg7 lg7 bg6 lg6 bg5 lg5 bg4 lg4 bg3 lg3 bg2 lg2 bg1 lg1; clear hk))
        | (go_at_call 8; ((with_reducible refine (K1.out _ _ (hr.step (by go_grown))).mono ?_); rintro e1 w' ⟨rfl, hk⟩; (try clear hX); have hX := hk.2; (try clear mg70 mg71 mg60 mg61 mg50 mg51 mg40 mg41 mg30 mg31 mg20 mg21 mg10 mg11); obtain ⟨⟨bg7, lg7⟩, ⟨bg6, lg6⟩, ⟨bg5, lg5⟩, ⟨bg4, lg4⟩, ⟨bg3, lg3⟩, ⟨bg2, lg2⟩, ⟨bg1, lg1⟩, -⟩ := hB.below hk.2; obtain ⟨mg70, mg71⟩ := bg7.duo; obtain ⟨mg60, mg61⟩ := bg6.duo; obtain ⟨mg50, mg51⟩ := bg5.duo; obtain ⟨mg40, mg41⟩ := bg4.duo; obtain ⟨mg30, mg31⟩ := bg3.duo; obtain ⟨mg20, mg21⟩ := bg2.duo; obtain ⟨mg10, mg11⟩ := bg1.duo; clear bg7 lg7 bg6 lg6 bg5 lg5 bg4 lg4 bg3 lg3 bg2 lg2 bg1 lg1; clear hk))
        | (go_at_call 20; ((with_reducible refine (KO.out _ _ (hr.step (by go_grown))).mono ?_); rintro e1 w' ⟨rfl, hk⟩; (try clear hX); have hX := hk.2; (try clear mg70 mg71 mg60 mg61 mg50 mg51 mg40 mg41 mg30 mg31 mg20 mg21 mg10 mg11); obtain ⟨⟨bg7, lg7⟩, ⟨bg6, lg6⟩, ⟨bg5, lg5⟩, ⟨bg4, lg4⟩, ⟨bg3, lg3⟩, ⟨bg2, lg2⟩, ⟨bg1, lg1⟩, -⟩ := hB.below hk.2; obtain ⟨mg70, mg71⟩ := bg7.duo; obtain ⟨mg60, mg61⟩ := bg6.duo; obtain ⟨mg50, mg51⟩ := bg5.duo; obtain ⟨mg40, mg41⟩ := bg4.duo; obtain ⟨mg30, mg31⟩ := bg3.duo; obtain ⟨mg20, mg21⟩ := bg2.duo; obtain ⟨mg10, mg11⟩ := bg1.duo; clear bg7 lg7 bg6 lg6 bg5 lg5 bg4 lg4 bg3 lg3 bg2 lg2 bg1 lg1; clear hk))
        | (go_at_call 12; ((with_reducible refine (KL.out _ _ (hr.step (by go_grown))).mono ?_); rintro e1 w' ⟨rfl, hk⟩; (try clear hX); have hX := hk.2; (try clear mg70 mg71 mg60 mg61 mg50 mg51 mg40 mg41 mg30 mg31 mg20 mg21 mg10 mg11); obtain ⟨⟨bg7, lg7⟩, ⟨bg6, lg6⟩, ⟨bg5, lg5⟩, ⟨bg4, lg4⟩, ⟨bg3, lg3⟩, ⟨bg2, lg2⟩, ⟨bg1, lg1⟩, -⟩ := hB.below hk.2; obtain ⟨mg70, mg71⟩ := bg7.duo; obtain ⟨mg60, mg61⟩ := bg6.duo; obtain ⟨mg50, mg51⟩ := bg5.duo; obtain ⟨mg40, mg41⟩ := bg4.duo; obtain ⟨mg30, mg31⟩ := bg3.duo; obtain ⟨mg20, mg21⟩ := bg2.duo; obtain ⟨mg10, mg11⟩ := bg1.duo; clear bg7 lg7 bg6 lg6 bg5 lg5 bg4 lg4 bg3 lg3 bg2 lg2 bg1 lg1; clear hk)))
    (try go_wp2_with fail)
    refine hK.out _ _ ?_ (fun hHeld => ?_)
    · (try dsimp only)
      go_keep
    clear hK K
    (try simp only [Act.put, List.setIfInBounds_toArray, List.set_cons_zero, List.set_cons_succ])
    refine wpAnyH_take (i := 25) (oi := ?oi25x) (v := ?v25x) ?hi25x (by kernel_rfl) (by kernel_rfl) (by kernel_rfl) ?hQ25x ?hy25x (by assumption) ?rest25x
    case hi25x => (simp only [List.getElem?_toArray, List.getElem?_cons_succ, List.getElem?_cons_zero]; rfl)
    case hQ25x => exact fun _ _ _ h => h
    case hy25x => exact Or.inl ⟨by rfl, by (intro w hSw; (try dsimp only at hSw); go_simp; try with_reducible rfl)⟩
    (try simp only [Act.put, List.setIfInBounds_toArray, List.set_cons_zero, List.set_cons_succ])
    refine wpAnyH_take (i := 26) (oi := ?oi26x) (v := ?v26x) ?hi26x (by kernel_rfl) (by kernel_rfl) (by kernel_rfl) ?hQ26x ?hy26x (by assumption) ?rest26x
    case hi26x => (simp only [List.getElem?_toArray, List.getElem?_cons_succ, List.getElem?_cons_zero]; rfl)
    case hQ26x => exact fun _ _ _ h => h
    case hy26x => exact Or.inl ⟨by rfl, by (intro w hSw; (try dsimp only at hSw); go_simp; try with_reducible rfl)⟩
    (try simp only [Act.put, List.setIfInBounds_toArray, List.set_cons_zero, List.set_cons_succ])
    refine wpAnyH_done (by kernel_rfl) ?_ _
    refine NoPanic.normal ?_
    all_goals
      go_wp2_with fail
      go_ret
      exact ⟨rfl, oo.step hX⟩
set_option maxRecDepth 100000 in
set_option maxHeartbeats 8000000 in
theorem next_1 (d j e p q pe ec : Int) (w W : World) (KL : Hid (∀ B X, Ok B X → Calls Tryd.prog 12 #[] X fun x w' => x = .returned (.bool true) ∧ Ok B w')) (KN : Hid (∀ B X, Ok B X → Calls Tryd.prog 13 #[E2 0 d] X fun x w' => x = .returned (.tuple #[E2 0 (d + 1), .int .i64 0]) ∧ Ok B w')) (KP : Hid (∀ B X, Ok B X → Calls Tryd.prog 14 #[E2 0 d] X fun x w' => x = .returned (.tuple #[E2 p q, .int .i64 pe]) ∧ Ok B w')) (KRN : Hid (∀ B X, Ok B X → Calls Tryd.prog 15 #[E2 0 d] X fun x w' => x = .returned (.tuple #[E2 0 (d + 1), .int .i64 0]) ∧ Ok B w')) (KRP : Hid (∀ B X, Ok B X → Calls Tryd.prog 16 #[E2 0 d] X fun x w' => x = .returned (.tuple #[E2 p q, .int .i64 pe]) ∧ Ok B w')) (KC : Hid (∀ B X, Ok B X → Calls Tryd.prog 17 #[E2 0 d] X fun x w' => x = .returned (.int .i64 ec) ∧ Ok B w')) (KRC : Hid (∀ B X, Ok B X → Calls Tryd.prog 18 #[E2 0 d] X fun x w' => x = .returned (.int .i64 ec) ∧ Ok B w')) (KG1 : Hid (∀ B X, Ok B X → Calls Tryd.prog 19 #[E2 0 (d + 1), .int .i64 0, E2 0 (d + 1), .int .i64 0] X fun x w' => x = .returned (.bool true) ∧ Ok B w')) (KG2 : Hid (∀ B X, Ok B X → Calls Tryd.prog 19 #[E2 p q, .int .i64 pe, E2 p q, .int .i64 pe] X fun x w' => x = .returned (.bool true) ∧ Ok B w'))
    (KB : Hid (∀ B X, Ok B X → Calls Tryd.prog 14 #[E2 0 (d + 1)] X fun x w' => x = .returned (.tuple #[E2 0 d, .int .i64 0]) ∧ Ok B w')) (KG3 : Hid (∀ B X, Ok B X → Calls Tryd.prog 19 #[E2 0 d, .int .i64 0, E2 0 d, .int .i64 0] X fun x w' => x = .returned (.bool true) ∧ Ok B w')) (K1 : Hid (∀ B X, Ok B X → Calls Tryd.prog 8 #[E2 0 d, E2 j e] X fun x w' => x = .returned (.int .i64 1) ∧ Ok B w'))  (KO : Hid (∀ B X, Ok B X → Calls Tryd.prog 20 #[.int .i64 d] X fun x w' => x = .returned (E2 0 d) ∧ Ok B w'))
    (eA : Hid (∀ w, (binOp .eql 24 (E2 0 d) (E2 0 d)).run Tryd.prog w = .ok (.bool true) w))
     (ho : Ok w W) :
    Calls Tryd.prog 4 #[E2 0 d, E2 j e] W fun x w' => x = .returned (.bool true) ∧ Ok w w' := by
  have heE : (ec != ec) = false := by simp
  go_enter Tryd.func4, Tryd.ntmps4
  go_upto_region 1 with fail
  have hB := Bs.new (Bs.new (show Bs W [] from trivial) 0 d) j e
  rw [size_al] at hB
  have oo : Ok w ((W.alloc (Obj.cells #[Value.int IntKind.i8 0, Value.int IntKind.i64 d] 24)).alloc (Obj.cells #[Value.int IntKind.i8 j, Value.int IntKind.i64 e] 24)) := ho.step (by go_grown)
  generalize ((W.alloc (Obj.cells #[Value.int IntKind.i8 0, Value.int IntKind.i64 d] 24)).alloc (Obj.cells #[Value.int IntKind.i8 j, Value.int IntKind.i64 e] 24)) = W0 at *
  generalize W.heap.size + 1 = g2 at *
  generalize W.heap.size = g1 at *
  clear ho
  have hr := Ok.refl oo.1
  obtain ⟨⟨bg2, lg2⟩, ⟨bg1, lg1⟩, -⟩ := id hB
  obtain ⟨fg20, fg21⟩ := bg2.duo
  obtain ⟨fg10, fg11⟩ := bg1.duo
  clear bg2 lg2 bg1 lg1
  go_upto_region 2 with (go_at_call 13; ((with_reducible refine (KN.out _ _ hr).mono ?_); rintro e1 w3 ⟨rfl, hk3⟩))
  have hB' := Bs.new (hB.below hk3.2) 0 (d + 1)
  have o' := (oo.step hk3.2).step (end_new w3 0 (d + 1) _ rfl).2.2
  clear hB oo hr fg20 fg21 fg10 fg11
  generalize (w3.alloc (Obj.cells #[Value.int IntKind.i8 0, Value.int IntKind.i64 (d + 1)] 24)) = W3 at *
  generalize w3.heap.size = g3 at *
  clear hk3 KN
  have hB := hB'
  have oo := o'
  clear hB' o'
  have hr := Ok.refl oo.1
  obtain ⟨⟨bg3, lg3⟩, ⟨bg2, lg2⟩, ⟨bg1, lg1⟩, -⟩ := id hB
  obtain ⟨fg30, fg31⟩ := bg3.duo
  obtain ⟨fg20, fg21⟩ := bg2.duo
  obtain ⟨fg10, fg11⟩ := bg1.duo
  clear bg3 lg3 bg2 lg2 bg1 lg1
  go_upto_region 3 with (go_at_call 14; ((with_reducible refine (KP.out _ _ hr).mono ?_); rintro e1 w4 ⟨rfl, hk4⟩))
  have hB' := Bs.new (hB.below hk4.2) p q
  have o' := (oo.step hk4.2).step (end_new w4 p q _ rfl).2.2
  clear hB oo hr fg30 fg31 fg20 fg21 fg10 fg11
  generalize (w4.alloc (Obj.cells #[Value.int IntKind.i8 p, Value.int IntKind.i64 q] 24)) = W4 at *
  generalize w4.heap.size = g4 at *
  clear hk4 KP
  have hB := hB'
  have oo := o'
  clear hB' o'
  have hr := Ok.refl oo.1
  obtain ⟨⟨bg4, lg4⟩, ⟨bg3, lg3⟩, ⟨bg2, lg2⟩, ⟨bg1, lg1⟩, -⟩ := id hB
  obtain ⟨fg40, fg41⟩ := bg4.duo
  obtain ⟨fg30, fg31⟩ := bg3.duo
  obtain ⟨fg20, fg21⟩ := bg2.duo
  obtain ⟨fg10, fg11⟩ := bg1.duo
  clear bg4 lg4 bg3 lg3 bg2 lg2 bg1 lg1
  go_upto_region 4 with (go_at_call 15; ((with_reducible refine (KRN.out _ _ hr).mono ?_); rintro e1 w5 ⟨rfl, hk5⟩))
  have hB' := Bs.new (hB.below hk5.2) 0 (d + 1)
  have o' := (oo.step hk5.2).step (end_new w5 0 (d + 1) _ rfl).2.2
  clear hB oo hr fg40 fg41 fg30 fg31 fg20 fg21 fg10 fg11
  generalize (w5.alloc (Obj.cells #[Value.int IntKind.i8 0, Value.int IntKind.i64 (d + 1)] 24)) = W5 at *
  generalize w5.heap.size = g5 at *
  clear hk5 KRN
  have hB := hB'
  have oo := o'
  clear hB' o'
  have hr := Ok.refl oo.1
  obtain ⟨⟨bg5, lg5⟩, ⟨bg4, lg4⟩, ⟨bg3, lg3⟩, ⟨bg2, lg2⟩, ⟨bg1, lg1⟩, -⟩ := id hB
  obtain ⟨fg50, fg51⟩ := bg5.duo
  obtain ⟨fg40, fg41⟩ := bg4.duo
  obtain ⟨fg30, fg31⟩ := bg3.duo
  obtain ⟨fg20, fg21⟩ := bg2.duo
  obtain ⟨fg10, fg11⟩ := bg1.duo
  clear bg5 lg5 bg4 lg4 bg3 lg3 bg2 lg2 bg1 lg1
  go_upto_region 5 with (go_at_call 16; ((with_reducible refine (KRP.out _ _ hr).mono ?_); rintro e1 w6 ⟨rfl, hk6⟩))
  have hB' := Bs.new (hB.below hk6.2) p q
  have o' := (oo.step hk6.2).step (end_new w6 p q _ rfl).2.2
  clear hB oo hr fg50 fg51 fg40 fg41 fg30 fg31 fg20 fg21 fg10 fg11
  generalize (w6.alloc (Obj.cells #[Value.int IntKind.i8 p, Value.int IntKind.i64 q] 24)) = W6 at *
  generalize w6.heap.size = g6 at *
  clear hk6 KRP
  have hB := hB'
  have oo := o'
  clear hB' o'
  have hr := Ok.refl oo.1
  obtain ⟨⟨bg6, lg6⟩, ⟨bg5, lg5⟩, ⟨bg4, lg4⟩, ⟨bg3, lg3⟩, ⟨bg2, lg2⟩, ⟨bg1, lg1⟩, -⟩ := id hB
  obtain ⟨fg60, fg61⟩ := bg6.duo
  obtain ⟨fg50, fg51⟩ := bg5.duo
  obtain ⟨fg40, fg41⟩ := bg4.duo
  obtain ⟨fg30, fg31⟩ := bg3.duo
  obtain ⟨fg20, fg21⟩ := bg2.duo
  obtain ⟨fg10, fg11⟩ := bg1.duo
  clear bg6 lg6 bg5 lg5 bg4 lg4 bg3 lg3 bg2 lg2 bg1 lg1
  go_cut [55] (fun v wx => v = .bool false ∧ Below W6.heap.size W6 wx)
  case first =>
    have hee := heE
    go_region_held3 (fun x => x.cell? ⟨g6, 0, none⟩ = some (.int .i8 p) ∧ x.cell? ⟨g6, 1, none⟩ = some (.int .i64 q) ∧ x.cell? ⟨g5, 0, none⟩ = some (.int .i8 0) ∧ x.cell? ⟨g5, 1, none⟩ = some (.int .i64 (d + 1)) ∧ x.cell? ⟨g4, 0, none⟩ = some (.int .i8 p) ∧ x.cell? ⟨g4, 1, none⟩ = some (.int .i64 q) ∧ x.cell? ⟨g3, 0, none⟩ = some (.int .i8 0) ∧ x.cell? ⟨g3, 1, none⟩ = some (.int .i64 (d + 1)) ∧ x.cell? ⟨g2, 0, none⟩ = some (.int .i8 j) ∧ x.cell? ⟨g2, 1, none⟩ = some (.int .i64 e) ∧ x.cell? ⟨g1, 0, none⟩ = some (.int .i8 0) ∧ x.cell? ⟨g1, 1, none⟩ = some (.int .i64 d)) (go_keep)
      (first
        | (go_at_call 17; ((with_reducible refine (KC.out _ _ (hr.step (by go_grown))).mono ?_); rintro e1 w' ⟨rfl, hk⟩; (try clear hX); have hX := hk.2; (try clear mg60 mg61 mg50 mg51 mg40 mg41 mg30 mg31 mg20 mg21 mg10 mg11); obtain ⟨⟨bg6, lg6⟩, ⟨bg5, lg5⟩, ⟨bg4, lg4⟩, ⟨bg3, lg3⟩, ⟨bg2, lg2⟩, ⟨bg1, lg1⟩, -⟩ := hB.below hk.2; obtain ⟨mg60, mg61⟩ := bg6.duo; obtain ⟨mg50, mg51⟩ := bg5.duo; obtain ⟨mg40, mg41⟩ := bg4.duo; obtain ⟨mg30, mg31⟩ := bg3.duo; obtain ⟨mg20, mg21⟩ := bg2.duo; obtain ⟨mg10, mg11⟩ := bg1.duo; clear bg6 lg6 bg5 lg5 bg4 lg4 bg3 lg3 bg2 lg2 bg1 lg1; clear hk))
        | (go_at_call 18; ((with_reducible refine (KRC.out _ _ (hr.step (by go_grown))).mono ?_); rintro e1 w' ⟨rfl, hk⟩; (try clear hX); have hX := hk.2; (try clear mg60 mg61 mg50 mg51 mg40 mg41 mg30 mg31 mg20 mg21 mg10 mg11); obtain ⟨⟨bg6, lg6⟩, ⟨bg5, lg5⟩, ⟨bg4, lg4⟩, ⟨bg3, lg3⟩, ⟨bg2, lg2⟩, ⟨bg1, lg1⟩, -⟩ := hB.below hk.2; obtain ⟨mg60, mg61⟩ := bg6.duo; obtain ⟨mg50, mg51⟩ := bg5.duo; obtain ⟨mg40, mg41⟩ := bg4.duo; obtain ⟨mg30, mg31⟩ := bg3.duo; obtain ⟨mg20, mg21⟩ := bg2.duo; obtain ⟨mg10, mg11⟩ := bg1.duo; clear bg6 lg6 bg5 lg5 bg4 lg4 bg3 lg3 bg2 lg2 bg1 lg1; clear hk))
        | (go_at_call 19; ((with_reducible refine (KG1.out _ _ (hr.step (by go_grown))).mono ?_); rintro e1 w' ⟨rfl, hk⟩; (try clear hX); have hX := hk.2; (try clear mg60 mg61 mg50 mg51 mg40 mg41 mg30 mg31 mg20 mg21 mg10 mg11); obtain ⟨⟨bg6, lg6⟩, ⟨bg5, lg5⟩, ⟨bg4, lg4⟩, ⟨bg3, lg3⟩, ⟨bg2, lg2⟩, ⟨bg1, lg1⟩, -⟩ := hB.below hk.2; obtain ⟨mg60, mg61⟩ := bg6.duo; obtain ⟨mg50, mg51⟩ := bg5.duo; obtain ⟨mg40, mg41⟩ := bg4.duo; obtain ⟨mg30, mg31⟩ := bg3.duo; obtain ⟨mg20, mg21⟩ := bg2.duo; obtain ⟨mg10, mg11⟩ := bg1.duo; clear bg6 lg6 bg5 lg5 bg4 lg4 bg3 lg3 bg2 lg2 bg1 lg1; clear hk))
        | (go_at_call 19; ((with_reducible refine (KG2.out _ _ (hr.step (by go_grown))).mono ?_); rintro e1 w' ⟨rfl, hk⟩; (try clear hX); have hX := hk.2; (try clear mg60 mg61 mg50 mg51 mg40 mg41 mg30 mg31 mg20 mg21 mg10 mg11); obtain ⟨⟨bg6, lg6⟩, ⟨bg5, lg5⟩, ⟨bg4, lg4⟩, ⟨bg3, lg3⟩, ⟨bg2, lg2⟩, ⟨bg1, lg1⟩, -⟩ := hB.below hk.2; obtain ⟨mg60, mg61⟩ := bg6.duo; obtain ⟨mg50, mg51⟩ := bg5.duo; obtain ⟨mg40, mg41⟩ := bg4.duo; obtain ⟨mg30, mg31⟩ := bg3.duo; obtain ⟨mg20, mg21⟩ := bg2.duo; obtain ⟨mg10, mg11⟩ := bg1.duo; clear bg6 lg6 bg5 lg5 bg4 lg4 bg3 lg3 bg2 lg2 bg1 lg1; clear hk)))
    all_goals
      go_wp2_with fail
      go_meet
      exact ⟨rfl, hX⟩
  case rest =>
    obtain ⟨rfl, hX⟩ := hcut
    have ob := oo.step hX
    have hBb := hB.below hX
    clear oo hB hr hX KC KRC KG1 KG2 fg60 fg61 fg50 fg51 fg40 fg41 fg30 fg31 fg20 fg21 fg10 fg11
    have hr := Ok.refl ob.1
    have oo := ob
    have hB := hBb
    clear ob hBb
    obtain ⟨⟨bg6, lg6⟩, ⟨bg5, lg5⟩, ⟨bg4, lg4⟩, ⟨bg3, lg3⟩, ⟨bg2, lg2⟩, ⟨bg1, lg1⟩, -⟩ := id hB
    obtain ⟨fg60, fg61⟩ := bg6.duo
    obtain ⟨fg50, fg51⟩ := bg5.duo
    obtain ⟨fg40, fg41⟩ := bg4.duo
    obtain ⟨fg30, fg31⟩ := bg3.duo
    obtain ⟨fg20, fg21⟩ := bg2.duo
    obtain ⟨fg10, fg11⟩ := bg1.duo
    clear bg6 lg6 bg5 lg5 bg4 lg4 bg3 lg3 bg2 lg2 bg1 lg1
    go_upto_region 10 with (go_at_call 14; ((with_reducible refine (KB.out _ _ hr).mono ?_); rintro e1 w7 ⟨rfl, hk7⟩))
    have hB' := Bs.new (hB.below hk7.2) 0 d
    have o' := (oo.step hk7.2).step (end_new w7 0 d _ rfl).2.2
    clear hB oo hr fg60 fg61 fg50 fg51 fg40 fg41 fg30 fg31 fg20 fg21 fg10 fg11
    generalize (w7.alloc (Obj.cells #[Value.int IntKind.i8 0, Value.int IntKind.i64 d] 24)) = W7 at *
    generalize w7.heap.size = g7 at *
    clear hk7 KB
    have hB := hB'
    have oo := o'
    clear hB' o'
    have hr := Ok.refl oo.1
    obtain ⟨⟨bg7, lg7⟩, ⟨bg6, lg6⟩, ⟨bg5, lg5⟩, ⟨bg4, lg4⟩, ⟨bg3, lg3⟩, ⟨bg2, lg2⟩, ⟨bg1, lg1⟩, -⟩ := id hB
    obtain ⟨fg70, fg71⟩ := bg7.duo
    obtain ⟨fg60, fg61⟩ := bg6.duo
    obtain ⟨fg50, fg51⟩ := bg5.duo
    obtain ⟨fg40, fg41⟩ := bg4.duo
    obtain ⟨fg30, fg31⟩ := bg3.duo
    obtain ⟨fg20, fg21⟩ := bg2.duo
    obtain ⟨fg10, fg11⟩ := bg1.duo
    clear bg7 lg7 bg6 lg6 bg5 lg5 bg4 lg4 bg3 lg3 bg2 lg2 bg1 lg1
    have q1 := eA.out
    refine wp_region_noPanic ?_
    refine wp_region_held_drew (S := (fun x => x.cell? ⟨g7, 0, none⟩ = some (.int .i8 0) ∧ x.cell? ⟨g7, 1, none⟩ = some (.int .i64 d) ∧ x.cell? ⟨g3, 0, none⟩ = some (.int .i8 0) ∧ x.cell? ⟨g3, 1, none⟩ = some (.int .i64 (d + 1)) ∧ x.cell? ⟨g2, 0, none⟩ = some (.int .i8 j) ∧ x.cell? ⟨g2, 1, none⟩ = some (.int .i64 e) ∧ x.cell? ⟨g1, 0, none⟩ = some (.int .i8 0) ∧ x.cell? ⟨g1, 1, none⟩ = some (.int .i64 d))) (by kernel_rfl) ?_ (fun hHeld => ?_)
    · (try dsimp only)
      go_keep
    refine wpAnyH_take (i := 0) (oi := ?oi0x) (v := ?v0x) ?hi0x (by kernel_rfl) (by kernel_rfl) (by kernel_rfl) ?hQ0x ?hy0x (by assumption) ?rest0x
    case hi0x => (simp only [List.getElem?_toArray, List.getElem?_cons_zero]; rfl)
    case hQ0x => exact fun _ _ _ h => h
    case hy0x => exact Or.inl ⟨by rfl, by (intro w hSw; (try dsimp only at hSw); go_simp; try with_reducible rfl)⟩
    (try simp only [Act.put, List.setIfInBounds_toArray, List.set_cons_zero, List.set_cons_succ])
    refine wpAnyH_take (i := 1) (oi := ?oi1x) (v := ?v1x) ?hi1x (by kernel_rfl) (by kernel_rfl) (by kernel_rfl) ?hQ1x ?hy1x (by assumption) ?rest1x
    case hi1x => (simp only [List.getElem?_toArray, List.getElem?_cons_succ, List.getElem?_cons_zero]; rfl)
    case hQ1x => exact fun _ _ _ h => h
    case hy1x => exact Or.inl ⟨by rfl, by (intro w hSw; (try dsimp only at hSw); go_simp; try with_reducible rfl)⟩
    (try simp only [Act.put, List.setIfInBounds_toArray, List.set_cons_zero, List.set_cons_succ])
    refine wpAnyH_take (i := 2) (oi := ?oi2x) (v := ?v2x) ?hi2x (by kernel_rfl) (by kernel_rfl) (by kernel_rfl) ?hQ2x ?hy2x (by assumption) ?rest2x
    case hi2x => (simp only [List.getElem?_toArray, List.getElem?_cons_succ, List.getElem?_cons_zero]; rfl)
    case hQ2x => exact fun _ _ _ h => h
    case hy2x => exact Or.inl ⟨by rfl, by (intro w hSw; (try dsimp only at hSw); go_simp; try with_reducible rfl)⟩
    (try simp only [Act.put, List.setIfInBounds_toArray, List.set_cons_zero, List.set_cons_succ])
    refine wpAnyH_ready (rs := [3]) (by kernel_rfl) (by simp) ?_
    refine AllReadyH.cons (o := ?oi3x) ?ho3x ?hK3x AllReadyH.nil
    case ho3x => (simp only [List.getElem?_toArray, List.getElem?_cons_succ, List.getElem?_cons_zero]; rfl)
    intro K hK
    go_simp
    (first
        | (go_at_call 19; ((with_reducible refine (KG3.out _ _ (hr.step (by go_grown))).mono ?_); rintro e1 w' ⟨rfl, hk⟩; (try clear hX); have hX := hk.2; (try clear mg70 mg71 mg60 mg61 mg50 mg51 mg40 mg41 mg30 mg31 mg20 mg21 mg10 mg11); obtain ⟨⟨bg7, lg7⟩, ⟨bg6, lg6⟩, ⟨bg5, lg5⟩, ⟨bg4, lg4⟩, ⟨bg3, lg3⟩, ⟨bg2, lg2⟩, ⟨bg1, lg1⟩, -⟩ := hB.below hk.2; obtain ⟨mg70, mg71⟩ := bg7.duo; obtain ⟨mg60, mg61⟩ := bg6.duo; obtain ⟨mg50, mg51⟩ := bg5.duo; obtain ⟨mg40, mg41⟩ := bg4.duo; obtain ⟨mg30, mg31⟩ := bg3.duo; obtain ⟨mg20, mg21⟩ := bg2.duo; obtain ⟨mg10, mg11⟩ := bg1.duo; clear bg7 lg7 bg6 lg6 bg5 lg5 bg4 lg4 bg3 lg3 bg2 lg2 bg1 lg1; clear hk))
        | (go_at_call 8; ((with_reducible refine (K1.out _ _ (hr.step (by go_grown))).mono ?_); rintro e1 w' ⟨rfl, hk⟩; (try clear hX); have hX := hk.2; (try clear mg70 mg71 mg60 mg61 mg50 mg51 mg40 mg41 mg30 mg31 mg20 mg21 mg10 mg11); obtain ⟨⟨bg7, lg7⟩, ⟨bg6, lg6⟩, ⟨bg5, lg5⟩, ⟨bg4, lg4⟩, ⟨bg3, lg3⟩, ⟨bg2, lg2⟩, ⟨bg1, lg1⟩, -⟩ := hB.below hk.2; obtain ⟨mg70, mg71⟩ := bg7.duo; obtain ⟨mg60, mg61⟩ := bg6.duo; obtain ⟨mg50, mg51⟩ := bg5.duo; obtain ⟨mg40, mg41⟩ := bg4.duo; obtain ⟨mg30, mg31⟩ := bg3.duo; obtain ⟨mg20, mg21⟩ := bg2.duo; obtain ⟨mg10, mg11⟩ := bg1.duo; clear bg7 lg7 bg6 lg6 bg5 lg5 bg4 lg4 bg3 lg3 bg2 lg2 bg1 lg1; clear hk))
        | (go_at_call 20; ((with_reducible refine (KO.out _ _ (hr.step (by go_grown))).mono ?_); rintro e1 w' ⟨rfl, hk⟩; (try clear hX); have hX := hk.2; (try clear mg70 mg71 mg60 mg61 mg50 mg51 mg40 mg41 mg30 mg31 mg20 mg21 mg10 mg11); obtain ⟨⟨bg7, lg7⟩, ⟨bg6, lg6⟩, ⟨bg5, lg5⟩, ⟨bg4, lg4⟩, ⟨bg3, lg3⟩, ⟨bg2, lg2⟩, ⟨bg1, lg1⟩, -⟩ := hB.below hk.2; obtain ⟨mg70, mg71⟩ := bg7.duo; obtain ⟨mg60, mg61⟩ := bg6.duo; obtain ⟨mg50, mg51⟩ := bg5.duo; obtain ⟨mg40, mg41⟩ := bg4.duo; obtain ⟨mg30, mg31⟩ := bg3.duo; obtain ⟨mg20, mg21⟩ := bg2.duo; obtain ⟨mg10, mg11⟩ := bg1.duo; clear bg7 lg7 bg6 lg6 bg5 lg5 bg4 lg4 bg3 lg3 bg2 lg2 bg1 lg1; clear hk))
        | (go_at_call 12; ((with_reducible refine (KL.out _ _ (hr.step (by go_grown))).mono ?_); rintro e1 w' ⟨rfl, hk⟩; (try clear hX); have hX := hk.2; (try clear mg70 mg71 mg60 mg61 mg50 mg51 mg40 mg41 mg30 mg31 mg20 mg21 mg10 mg11); obtain ⟨⟨bg7, lg7⟩, ⟨bg6, lg6⟩, ⟨bg5, lg5⟩, ⟨bg4, lg4⟩, ⟨bg3, lg3⟩, ⟨bg2, lg2⟩, ⟨bg1, lg1⟩, -⟩ := hB.below hk.2; obtain ⟨mg70, mg71⟩ := bg7.duo; obtain ⟨mg60, mg61⟩ := bg6.duo; obtain ⟨mg50, mg51⟩ := bg5.duo; obtain ⟨mg40, mg41⟩ := bg4.duo; obtain ⟨mg30, mg31⟩ := bg3.duo; obtain ⟨mg20, mg21⟩ := bg2.duo; obtain ⟨mg10, mg11⟩ := bg1.duo; clear bg7 lg7 bg6 lg6 bg5 lg5 bg4 lg4 bg3 lg3 bg2 lg2 bg1 lg1; clear hk)))
    (try go_wp2_with fail)
    refine hK.out _ _ ?_ (fun hHeld => ?_)
    · (try dsimp only)
      go_keep
    clear hK K
    (try simp only [Act.put, List.setIfInBounds_toArray, List.set_cons_zero, List.set_cons_succ])
    refine wpAnyH_take (i := 4) (oi := ?oi4x) (v := ?v4x) ?hi4x (by kernel_rfl) (by kernel_rfl) (by kernel_rfl) ?hQ4x ?hy4x (by assumption) ?rest4x
    case hi4x => (simp only [List.getElem?_toArray, List.getElem?_cons_succ, List.getElem?_cons_zero]; rfl)
    case hQ4x => exact fun _ _ _ h => h
    case hy4x => exact Or.inl ⟨by rfl, by (intro w hSw; (try dsimp only at hSw); go_simp; try with_reducible rfl)⟩
    (try simp only [Act.put, List.setIfInBounds_toArray, List.set_cons_zero, List.set_cons_succ])
    refine wpAnyH_take (i := 5) (oi := ?oi5x) (v := ?v5x) ?hi5x (by kernel_rfl) (by kernel_rfl) (by kernel_rfl) ?hQ5x ?hy5x (by assumption) ?rest5x
    case hi5x => (simp only [List.getElem?_toArray, List.getElem?_cons_succ, List.getElem?_cons_zero]; rfl)
    case hQ5x => exact fun _ _ _ h => h
    case hy5x => exact Or.inl ⟨by rfl, by (intro w hSw; (try dsimp only at hSw); go_simp; try with_reducible rfl)⟩
    (try simp only [Act.put, List.setIfInBounds_toArray, List.set_cons_zero, List.set_cons_succ])
    refine wpAnyH_take (i := 6) (oi := ?oi6x) (v := ?v6x) ?hi6x (by kernel_rfl) (by kernel_rfl) (by kernel_rfl) ?hQ6x ?hy6x (by assumption) ?rest6x
    case hi6x => (simp only [List.getElem?_toArray, List.getElem?_cons_succ, List.getElem?_cons_zero]; rfl)
    case hQ6x => exact fun _ _ _ h => h
    case hy6x => exact Or.inl ⟨by rfl, by (intro w hSw; (try dsimp only at hSw); go_simp; try with_reducible rfl)⟩
    (try simp only [Act.put, List.setIfInBounds_toArray, List.set_cons_zero, List.set_cons_succ])
    refine wpAnyH_ready (rs := [7]) (by kernel_rfl) (by simp) ?_
    refine AllReadyH.cons (o := ?oi7x) ?ho7x ?hK7x AllReadyH.nil
    case ho7x => (simp only [List.getElem?_toArray, List.getElem?_cons_succ, List.getElem?_cons_zero]; rfl)
    intro K hK
    go_simp
    (first
        | (go_at_call 19; ((with_reducible refine (KG3.out _ _ (hr.step (by go_grown))).mono ?_); rintro e1 w' ⟨rfl, hk⟩; (try clear hX); have hX := hk.2; (try clear mg70 mg71 mg60 mg61 mg50 mg51 mg40 mg41 mg30 mg31 mg20 mg21 mg10 mg11); obtain ⟨⟨bg7, lg7⟩, ⟨bg6, lg6⟩, ⟨bg5, lg5⟩, ⟨bg4, lg4⟩, ⟨bg3, lg3⟩, ⟨bg2, lg2⟩, ⟨bg1, lg1⟩, -⟩ := hB.below hk.2; obtain ⟨mg70, mg71⟩ := bg7.duo; obtain ⟨mg60, mg61⟩ := bg6.duo; obtain ⟨mg50, mg51⟩ := bg5.duo; obtain ⟨mg40, mg41⟩ := bg4.duo; obtain ⟨mg30, mg31⟩ := bg3.duo; obtain ⟨mg20, mg21⟩ := bg2.duo; obtain ⟨mg10, mg11⟩ := bg1.duo; clear bg7 lg7 bg6 lg6 bg5 lg5 bg4 lg4 bg3 lg3 bg2 lg2 bg1 lg1; clear hk))
        | (go_at_call 8; ((with_reducible refine (K1.out _ _ (hr.step (by go_grown))).mono ?_); rintro e1 w' ⟨rfl, hk⟩; (try clear hX); have hX := hk.2; (try clear mg70 mg71 mg60 mg61 mg50 mg51 mg40 mg41 mg30 mg31 mg20 mg21 mg10 mg11); obtain ⟨⟨bg7, lg7⟩, ⟨bg6, lg6⟩, ⟨bg5, lg5⟩, ⟨bg4, lg4⟩, ⟨bg3, lg3⟩, ⟨bg2, lg2⟩, ⟨bg1, lg1⟩, -⟩ := hB.below hk.2; obtain ⟨mg70, mg71⟩ := bg7.duo; obtain ⟨mg60, mg61⟩ := bg6.duo; obtain ⟨mg50, mg51⟩ := bg5.duo; obtain ⟨mg40, mg41⟩ := bg4.duo; obtain ⟨mg30, mg31⟩ := bg3.duo; obtain ⟨mg20, mg21⟩ := bg2.duo; obtain ⟨mg10, mg11⟩ := bg1.duo; clear bg7 lg7 bg6 lg6 bg5 lg5 bg4 lg4 bg3 lg3 bg2 lg2 bg1 lg1; clear hk))
        | (go_at_call 20; ((with_reducible refine (KO.out _ _ (hr.step (by go_grown))).mono ?_); rintro e1 w' ⟨rfl, hk⟩; (try clear hX); have hX := hk.2; (try clear mg70 mg71 mg60 mg61 mg50 mg51 mg40 mg41 mg30 mg31 mg20 mg21 mg10 mg11); obtain ⟨⟨bg7, lg7⟩, ⟨bg6, lg6⟩, ⟨bg5, lg5⟩, ⟨bg4, lg4⟩, ⟨bg3, lg3⟩, ⟨bg2, lg2⟩, ⟨bg1, lg1⟩, -⟩ := hB.below hk.2; obtain ⟨mg70, mg71⟩ := bg7.duo; obtain ⟨mg60, mg61⟩ := bg6.duo; obtain ⟨mg50, mg51⟩ := bg5.duo; obtain ⟨mg40, mg41⟩ := bg4.duo; obtain ⟨mg30, mg31⟩ := bg3.duo; obtain ⟨mg20, mg21⟩ := bg2.duo; obtain ⟨mg10, mg11⟩ := bg1.duo; clear bg7 lg7 bg6 lg6 bg5 lg5 bg4 lg4 bg3 lg3 bg2 lg2 bg1 lg1; clear hk))
        | (go_at_call 12; ((with_reducible refine (KL.out _ _ (hr.step (by go_grown))).mono ?_); rintro e1 w' ⟨rfl, hk⟩; (try clear hX); have hX := hk.2; (try clear mg70 mg71 mg60 mg61 mg50 mg51 mg40 mg41 mg30 mg31 mg20 mg21 mg10 mg11); obtain ⟨⟨bg7, lg7⟩, ⟨bg6, lg6⟩, ⟨bg5, lg5⟩, ⟨bg4, lg4⟩, ⟨bg3, lg3⟩, ⟨bg2, lg2⟩, ⟨bg1, lg1⟩, -⟩ := hB.below hk.2; obtain ⟨mg70, mg71⟩ := bg7.duo; obtain ⟨mg60, mg61⟩ := bg6.duo; obtain ⟨mg50, mg51⟩ := bg5.duo; obtain ⟨mg40, mg41⟩ := bg4.duo; obtain ⟨mg30, mg31⟩ := bg3.duo; obtain ⟨mg20, mg21⟩ := bg2.duo; obtain ⟨mg10, mg11⟩ := bg1.duo; clear bg7 lg7 bg6 lg6 bg5 lg5 bg4 lg4 bg3 lg3 bg2 lg2 bg1 lg1; clear hk)))
    (try go_wp2_with fail)
    refine hK.out _ _ ?_ (fun hHeld => ?_)
    · (try dsimp only)
      go_keep
    clear hK K
    (try simp only [Act.put, List.setIfInBounds_toArray, List.set_cons_zero, List.set_cons_succ])
    refine wpAnyH_take (i := 8) (oi := ?oi8x) (v := ?v8x) ?hi8x (by kernel_rfl) (by kernel_rfl) (by kernel_rfl) ?hQ8x ?hy8x (by assumption) ?rest8x
    case hi8x => (simp only [List.getElem?_toArray, List.getElem?_cons_succ, List.getElem?_cons_zero]; rfl)
    case hQ8x => exact fun _ _ _ h => h
    case hy8x => exact Or.inl ⟨by rfl, by (intro w hSw; (try dsimp only at hSw); go_simp; try with_reducible rfl)⟩
    (try simp only [Act.put, List.setIfInBounds_toArray, List.set_cons_zero, List.set_cons_succ])
    refine wpAnyH_take (i := 9) (oi := ?oi9x) (v := ?v9x) ?hi9x (by kernel_rfl) (by kernel_rfl) (by kernel_rfl) ?hQ9x ?hy9x (by assumption) ?rest9x
    case hi9x => (simp only [List.getElem?_toArray, List.getElem?_cons_succ, List.getElem?_cons_zero]; rfl)
    case hQ9x => exact fun _ _ _ h => h
    case hy9x => exact Or.inl ⟨by rfl, by (intro w hSw; (try dsimp only at hSw); go_simp; try with_reducible rfl)⟩
    (try simp only [Act.put, List.setIfInBounds_toArray, List.set_cons_zero, List.set_cons_succ])
    refine wpAnyH_take (i := 10) (oi := ?oi10x) (v := undef) ?hi10x (by kernel_rfl) (by kernel_rfl) (by kernel_rfl) ?hQ10x ?hy10x (by assumption) ?rest10x
    case hi10x => (simp only [List.getElem?_toArray, List.getElem?_cons_succ, List.getElem?_cons_zero]; rfl)
    case hQ10x => exact fun _ _ _ h => h
    case hy10x => exact Or.inr ⟨by rfl, rfl⟩
    (try simp only [Act.put, List.setIfInBounds_toArray, List.set_cons_zero, List.set_cons_succ])
    refine wpAnyH_take (i := 11) (oi := ?oi11x) (v := undef) ?hi11x (by kernel_rfl) (by kernel_rfl) (by kernel_rfl) ?hQ11x ?hy11x (by assumption) ?rest11x
    case hi11x => (simp only [List.getElem?_toArray, List.getElem?_cons_succ, List.getElem?_cons_zero]; rfl)
    case hQ11x => exact fun _ _ _ h => h
    case hy11x => exact Or.inr ⟨by rfl, rfl⟩
    (try simp only [Act.put, List.setIfInBounds_toArray, List.set_cons_zero, List.set_cons_succ])
    refine wpAnyH_ready (rs := [12]) (by kernel_rfl) (by simp) ?_
    refine AllReadyH.cons (o := ?oi12x) ?ho12x ?hK12x AllReadyH.nil
    case ho12x => (simp only [List.getElem?_toArray, List.getElem?_cons_succ, List.getElem?_cons_zero]; rfl)
    intro K hK
    go_simp
    refine hK.out _ _ (by assumption) (fun _ => ?_)
    clear hK K
    (try simp only [Act.put, List.setIfInBounds_toArray, List.set_cons_zero, List.set_cons_succ])
    refine wpAnyH_take (i := 13) (oi := ?oi13x) (v := undef) ?hi13x (by kernel_rfl) (by kernel_rfl) (by kernel_rfl) ?hQ13x ?hy13x (by assumption) ?rest13x
    case hi13x => (simp only [List.getElem?_toArray, List.getElem?_cons_succ, List.getElem?_cons_zero]; rfl)
    case hQ13x => exact fun _ _ _ h => h
    case hy13x => exact Or.inr ⟨by rfl, rfl⟩
    (try simp only [Act.put, List.setIfInBounds_toArray, List.set_cons_zero, List.set_cons_succ])
    refine wpAnyH_take (i := 14) (oi := ?oi14x) (v := ?v14x) ?hi14x (by kernel_rfl) (by kernel_rfl) (by kernel_rfl) ?hQ14x ?hy14x (by assumption) ?rest14x
    case hi14x => (simp only [List.getElem?_toArray, List.getElem?_cons_succ, List.getElem?_cons_zero]; rfl)
    case hQ14x => exact fun _ _ _ h => h
    case hy14x => exact Or.inl ⟨by rfl, by (intro w hSw; (try dsimp only at hSw); go_simp; try with_reducible rfl)⟩
    (try simp only [Act.put, List.setIfInBounds_toArray, List.set_cons_zero, List.set_cons_succ])
    refine wpAnyH_take (i := 15) (oi := ?oi15x) (v := ?v15x) ?hi15x (by kernel_rfl) (by kernel_rfl) (by kernel_rfl) ?hQ15x ?hy15x (by assumption) ?rest15x
    case hi15x => (simp only [List.getElem?_toArray, List.getElem?_cons_succ, List.getElem?_cons_zero]; rfl)
    case hQ15x => exact fun _ _ _ h => h
    case hy15x => exact Or.inl ⟨by rfl, by (intro w hSw; (try dsimp only at hSw); go_simp; try with_reducible rfl)⟩
    (try simp only [Act.put, List.setIfInBounds_toArray, List.set_cons_zero, List.set_cons_succ])
    refine wpAnyH_take (i := 16) (oi := ?oi16x) (v := ?v16x) ?hi16x (by kernel_rfl) (by kernel_rfl) (by kernel_rfl) ?hQ16x ?hy16x (by assumption) ?rest16x
    case hi16x => (simp only [List.getElem?_toArray, List.getElem?_cons_succ, List.getElem?_cons_zero]; rfl)
    case hQ16x => exact fun _ _ _ h => h
    case hy16x => exact Or.inl ⟨by rfl, by (intro w hSw; (try dsimp only at hSw); go_simp; try with_reducible rfl)⟩
    (try simp only [Act.put, List.setIfInBounds_toArray, List.set_cons_zero, List.set_cons_succ])
    refine wpAnyH_take (i := 17) (oi := ?oi17x) (v := ?v17x) ?hi17x (by kernel_rfl) (by kernel_rfl) (by kernel_rfl) ?hQ17x ?hy17x (by assumption) ?rest17x
    case hi17x => (simp only [List.getElem?_toArray, List.getElem?_cons_succ, List.getElem?_cons_zero]; rfl)
    case hQ17x => exact fun _ _ _ h => h
    case hy17x => exact Or.inl ⟨by rfl, by (intro w hSw; (try dsimp only at hSw); go_simp; try with_reducible rfl)⟩
    (try simp only [Act.put, List.setIfInBounds_toArray, List.set_cons_zero, List.set_cons_succ])
    refine wpAnyH_take (i := 18) (oi := ?oi18x) (v := ?v18x) ?hi18x (by kernel_rfl) (by kernel_rfl) (by kernel_rfl) ?hQ18x ?hy18x (by assumption) ?rest18x
    case hi18x => (simp only [List.getElem?_toArray, List.getElem?_cons_succ, List.getElem?_cons_zero]; rfl)
    case hQ18x => exact fun _ _ _ h => h
    case hy18x => exact Or.inl ⟨by rfl, by (intro w hSw; (try dsimp only at hSw); go_simp; try with_reducible rfl)⟩
    (try simp only [Act.put, List.setIfInBounds_toArray, List.set_cons_zero, List.set_cons_succ])
    refine wpAnyH_take (i := 20) (oi := ?oi20x) (v := ?v20x) ?hi20x (by kernel_rfl) (by kernel_rfl) (by kernel_rfl) ?hQ20x ?hy20x (by assumption) ?rest20x
    case hi20x => (simp only [List.getElem?_toArray, List.getElem?_cons_succ, List.getElem?_cons_zero]; rfl)
    case hQ20x => exact fun _ _ _ h => h
    case hy20x => exact Or.inl ⟨by rfl, by (intro w hSw; (try dsimp only at hSw); go_simp; try with_reducible rfl)⟩
    (try simp only [Act.put, List.setIfInBounds_toArray, List.set_cons_zero, List.set_cons_succ])
    refine wpAnyH_ready (rs := [19]) (by kernel_rfl) (by simp) ?_
    refine AllReadyH.cons (o := ?oi19x) ?ho19x ?hK19x AllReadyH.nil
    case ho19x => (simp only [List.getElem?_toArray, List.getElem?_cons_succ, List.getElem?_cons_zero]; rfl)
    intro K hK
    go_simp
    (first
        | (go_at_call 19; ((with_reducible refine (KG3.out _ _ (hr.step (by go_grown))).mono ?_); rintro e1 w' ⟨rfl, hk⟩; (try clear hX); have hX := hk.2; (try clear mg70 mg71 mg60 mg61 mg50 mg51 mg40 mg41 mg30 mg31 mg20 mg21 mg10 mg11); obtain ⟨⟨bg7, lg7⟩, ⟨bg6, lg6⟩, ⟨bg5, lg5⟩, ⟨bg4, lg4⟩, ⟨bg3, lg3⟩, ⟨bg2, lg2⟩, ⟨bg1, lg1⟩, -⟩ := hB.below hk.2; obtain ⟨mg70, mg71⟩ := bg7.duo; obtain ⟨mg60, mg61⟩ := bg6.duo; obtain ⟨mg50, mg51⟩ := bg5.duo; obtain ⟨mg40, mg41⟩ := bg4.duo; obtain ⟨mg30, mg31⟩ := bg3.duo; obtain ⟨mg20, mg21⟩ := bg2.duo; obtain ⟨mg10, mg11⟩ := bg1.duo; clear bg7 lg7 bg6 lg6 bg5 lg5 bg4 lg4 bg3 lg3 bg2 lg2 bg1 lg1; clear hk))
        | (go_at_call 8; ((with_reducible refine (K1.out _ _ (hr.step (by go_grown))).mono ?_); rintro e1 w' ⟨rfl, hk⟩; (try clear hX); have hX := hk.2; (try clear mg70 mg71 mg60 mg61 mg50 mg51 mg40 mg41 mg30 mg31 mg20 mg21 mg10 mg11); obtain ⟨⟨bg7, lg7⟩, ⟨bg6, lg6⟩, ⟨bg5, lg5⟩, ⟨bg4, lg4⟩, ⟨bg3, lg3⟩, ⟨bg2, lg2⟩, ⟨bg1, lg1⟩, -⟩ := hB.below hk.2; obtain ⟨mg70, mg71⟩ := bg7.duo; obtain ⟨mg60, mg61⟩ := bg6.duo; obtain ⟨mg50, mg51⟩ := bg5.duo; obtain ⟨mg40, mg41⟩ := bg4.duo; obtain ⟨mg30, mg31⟩ := bg3.duo; obtain ⟨mg20, mg21⟩ := bg2.duo; obtain ⟨mg10, mg11⟩ := bg1.duo; clear bg7 lg7 bg6 lg6 bg5 lg5 bg4 lg4 bg3 lg3 bg2 lg2 bg1 lg1; clear hk))
        | (go_at_call 20; ((with_reducible refine (KO.out _ _ (hr.step (by go_grown))).mono ?_); rintro e1 w' ⟨rfl, hk⟩; (try clear hX); have hX := hk.2; (try clear mg70 mg71 mg60 mg61 mg50 mg51 mg40 mg41 mg30 mg31 mg20 mg21 mg10 mg11); obtain ⟨⟨bg7, lg7⟩, ⟨bg6, lg6⟩, ⟨bg5, lg5⟩, ⟨bg4, lg4⟩, ⟨bg3, lg3⟩, ⟨bg2, lg2⟩, ⟨bg1, lg1⟩, -⟩ := hB.below hk.2; obtain ⟨mg70, mg71⟩ := bg7.duo; obtain ⟨mg60, mg61⟩ := bg6.duo; obtain ⟨mg50, mg51⟩ := bg5.duo; obtain ⟨mg40, mg41⟩ := bg4.duo; obtain ⟨mg30, mg31⟩ := bg3.duo; obtain ⟨mg20, mg21⟩ := bg2.duo; obtain ⟨mg10, mg11⟩ := bg1.duo; clear bg7 lg7 bg6 lg6 bg5 lg5 bg4 lg4 bg3 lg3 bg2 lg2 bg1 lg1; clear hk))
        | (go_at_call 12; ((with_reducible refine (KL.out _ _ (hr.step (by go_grown))).mono ?_); rintro e1 w' ⟨rfl, hk⟩; (try clear hX); have hX := hk.2; (try clear mg70 mg71 mg60 mg61 mg50 mg51 mg40 mg41 mg30 mg31 mg20 mg21 mg10 mg11); obtain ⟨⟨bg7, lg7⟩, ⟨bg6, lg6⟩, ⟨bg5, lg5⟩, ⟨bg4, lg4⟩, ⟨bg3, lg3⟩, ⟨bg2, lg2⟩, ⟨bg1, lg1⟩, -⟩ := hB.below hk.2; obtain ⟨mg70, mg71⟩ := bg7.duo; obtain ⟨mg60, mg61⟩ := bg6.duo; obtain ⟨mg50, mg51⟩ := bg5.duo; obtain ⟨mg40, mg41⟩ := bg4.duo; obtain ⟨mg30, mg31⟩ := bg3.duo; obtain ⟨mg20, mg21⟩ := bg2.duo; obtain ⟨mg10, mg11⟩ := bg1.duo; clear bg7 lg7 bg6 lg6 bg5 lg5 bg4 lg4 bg3 lg3 bg2 lg2 bg1 lg1; clear hk)))
    (try go_wp2_with fail)
    refine hK.out _ _ ?_ (fun hHeld => ?_)
    · (try dsimp only)
      go_keep
    clear hK K
    (try simp only [Act.put, List.setIfInBounds_toArray, List.set_cons_zero, List.set_cons_succ])
    refine wpAnyH_take (i := 21) (oi := ?oi21x) (v := ?v21x) ?hi21x (by kernel_rfl) (by kernel_rfl) (by kernel_rfl) ?hQ21x ?hy21x (by assumption) ?rest21x
    case hi21x => (simp only [List.getElem?_toArray, List.getElem?_cons_succ, List.getElem?_cons_zero]; rfl)
    case hQ21x => exact fun _ _ _ h => h
    case hy21x => exact Or.inl ⟨by rfl, by (intro w hSw; (try dsimp only at hSw); go_simp; try with_reducible rfl)⟩
    (try simp only [Act.put, List.setIfInBounds_toArray, List.set_cons_zero, List.set_cons_succ])
    refine wpAnyH_take (i := 22) (oi := ?oi22x) (v := ?v22x) ?hi22x (by kernel_rfl) (by kernel_rfl) (by kernel_rfl) ?hQ22x ?hy22x (by assumption) ?rest22x
    case hi22x => (simp only [List.getElem?_toArray, List.getElem?_cons_succ, List.getElem?_cons_zero]; rfl)
    case hQ22x => exact fun _ _ _ h => h
    case hy22x => exact Or.inl ⟨by rfl, by (intro w hSw; (try dsimp only at hSw); go_simp; try with_reducible rfl)⟩
    (try simp only [Act.put, List.setIfInBounds_toArray, List.set_cons_zero, List.set_cons_succ])
    refine wpAnyH_take (i := 23) (oi := ?oi23x) (v := ?v23x) ?hi23x (by kernel_rfl) (by kernel_rfl) (by kernel_rfl) ?hQ23x ?hy23x (by assumption) ?rest23x
    case hi23x => (simp only [List.getElem?_toArray, List.getElem?_cons_succ, List.getElem?_cons_zero]; rfl)
    case hQ23x => exact fun _ _ _ h => h
    case hy23x => exact Or.inl ⟨by rfl, by (intro w hSw; (try dsimp only at hSw); go_simp; try with_reducible rfl)⟩
    (try simp only [Act.put, List.setIfInBounds_toArray, List.set_cons_zero, List.set_cons_succ])
    refine wpAnyH_ready (rs := [24]) (by kernel_rfl) (by simp) ?_
    refine AllReadyH.cons (o := ?oi24x) ?ho24x ?hK24x AllReadyH.nil
    case ho24x => (simp only [List.getElem?_toArray, List.getElem?_cons_succ, List.getElem?_cons_zero]; rfl)
    intro K hK
    go_simp
    (first
        | (go_at_call 19; ((with_reducible refine (KG3.out _ _ (hr.step (by go_grown))).mono ?_); rintro e1 w' ⟨rfl, hk⟩; (try clear hX); have hX := hk.2; (try clear mg70 mg71 mg60 mg61 mg50 mg51 mg40 mg41 mg30 mg31 mg20 mg21 mg10 mg11); obtain ⟨⟨bg7, lg7⟩, ⟨bg6, lg6⟩, ⟨bg5, lg5⟩, ⟨bg4, lg4⟩, ⟨bg3, lg3⟩, ⟨bg2, lg2⟩, ⟨bg1, lg1⟩, -⟩ := hB.below hk.2; obtain ⟨mg70, mg71⟩ := bg7.duo; obtain ⟨mg60, mg61⟩ := bg6.duo; obtain ⟨mg50, mg51⟩ := bg5.duo; obtain ⟨mg40, mg41⟩ := bg4.duo; obtain ⟨mg30, mg31⟩ := bg3.duo; obtain ⟨mg20, mg21⟩ := bg2.duo; obtain ⟨mg10, mg11⟩ := bg1.duo; clear bg7 lg7 bg6 lg6 bg5 lg5 bg4 lg4 bg3 lg3 bg2 lg2 bg1 lg1; clear hk))
        | (go_at_call 8; ((with_reducible refine (K1.out _ _ (hr.step (by go_grown))).mono ?_); rintro e1 w' ⟨rfl, hk⟩; (try clear hX); have hX := hk.2; (try clear mg70 mg71 mg60 mg61 mg50 mg51 mg40 mg41 mg30 mg31 mg20 mg21 mg10 mg11); obtain ⟨⟨bg7, lg7⟩, ⟨bg6, lg6⟩, ⟨bg5, lg5⟩, ⟨bg4, lg4⟩, ⟨bg3, lg3⟩, ⟨bg2, lg2⟩, ⟨bg1, lg1⟩, -⟩ := hB.below hk.2; obtain ⟨mg70, mg71⟩ := bg7.duo; obtain ⟨mg60, mg61⟩ := bg6.duo; obtain ⟨mg50, mg51⟩ := bg5.duo; obtain ⟨mg40, mg41⟩ := bg4.duo; obtain ⟨mg30, mg31⟩ := bg3.duo; obtain ⟨mg20, mg21⟩ := bg2.duo; obtain ⟨mg10, mg11⟩ := bg1.duo; clear bg7 lg7 bg6 lg6 bg5 lg5 bg4 lg4 bg3 lg3 bg2 lg2 bg1 lg1; clear hk))
        | (go_at_call 20; ((with_reducible refine (KO.out _ _ (hr.step (by go_grown))).mono ?_); rintro e1 w' ⟨rfl, hk⟩; (try clear hX); have hX := hk.2; (try clear mg70 mg71 mg60 mg61 mg50 mg51 mg40 mg41 mg30 mg31 mg20 mg21 mg10 mg11); obtain ⟨⟨bg7, lg7⟩, ⟨bg6, lg6⟩, ⟨bg5, lg5⟩, ⟨bg4, lg4⟩, ⟨bg3, lg3⟩, ⟨bg2, lg2⟩, ⟨bg1, lg1⟩, -⟩ := hB.below hk.2; obtain ⟨mg70, mg71⟩ := bg7.duo; obtain ⟨mg60, mg61⟩ := bg6.duo; obtain ⟨mg50, mg51⟩ := bg5.duo; obtain ⟨mg40, mg41⟩ := bg4.duo; obtain ⟨mg30, mg31⟩ := bg3.duo; obtain ⟨mg20, mg21⟩ := bg2.duo; obtain ⟨mg10, mg11⟩ := bg1.duo; clear bg7 lg7 bg6 lg6 bg5 lg5 bg4 lg4 bg3 lg3 bg2 lg2 bg1 lg1; clear hk))
        | (go_at_call 12; ((with_reducible refine (KL.out _ _ (hr.step (by go_grown))).mono ?_); rintro e1 w' ⟨rfl, hk⟩; (try clear hX); have hX := hk.2; (try clear mg70 mg71 mg60 mg61 mg50 mg51 mg40 mg41 mg30 mg31 mg20 mg21 mg10 mg11); obtain ⟨⟨bg7, lg7⟩, ⟨bg6, lg6⟩, ⟨bg5, lg5⟩, ⟨bg4, lg4⟩, ⟨bg3, lg3⟩, ⟨bg2, lg2⟩, ⟨bg1, lg1⟩, -⟩ := hB.below hk.2; obtain ⟨mg70, mg71⟩ := bg7.duo; obtain ⟨mg60, mg61⟩ := bg6.duo; obtain ⟨mg50, mg51⟩ := bg5.duo; obtain ⟨mg40, mg41⟩ := bg4.duo; obtain ⟨mg30, mg31⟩ := bg3.duo; obtain ⟨mg20, mg21⟩ := bg2.duo; obtain ⟨mg10, mg11⟩ := bg1.duo; clear bg7 lg7 bg6 lg6 bg5 lg5 bg4 lg4 bg3 lg3 bg2 lg2 bg1 lg1; clear hk)))
    (try go_wp2_with fail)
    refine hK.out _ _ ?_ (fun hHeld => ?_)
    · (try dsimp only)
      go_keep
    clear hK K
    (try simp only [Act.put, List.setIfInBounds_toArray, List.set_cons_zero, List.set_cons_succ])
    refine wpAnyH_take (i := 25) (oi := ?oi25x) (v := ?v25x) ?hi25x (by kernel_rfl) (by kernel_rfl) (by kernel_rfl) ?hQ25x ?hy25x (by assumption) ?rest25x
    case hi25x => (simp only [List.getElem?_toArray, List.getElem?_cons_succ, List.getElem?_cons_zero]; rfl)
    case hQ25x => exact fun _ _ _ h => h
    case hy25x => exact Or.inl ⟨by rfl, by (intro w hSw; (try dsimp only at hSw); go_simp; try with_reducible rfl)⟩
    (try simp only [Act.put, List.setIfInBounds_toArray, List.set_cons_zero, List.set_cons_succ])
    refine wpAnyH_take (i := 26) (oi := ?oi26x) (v := ?v26x) ?hi26x (by kernel_rfl) (by kernel_rfl) (by kernel_rfl) ?hQ26x ?hy26x (by assumption) ?rest26x
    case hi26x => (simp only [List.getElem?_toArray, List.getElem?_cons_succ, List.getElem?_cons_zero]; rfl)
    case hQ26x => exact fun _ _ _ h => h
    case hy26x => exact Or.inl ⟨by rfl, by (intro w hSw; (try dsimp only at hSw); go_simp; try with_reducible rfl)⟩
    (try simp only [Act.put, List.setIfInBounds_toArray, List.set_cons_zero, List.set_cons_succ])
    refine wpAnyH_done (by kernel_rfl) ?_ _
    refine NoPanic.normal ?_
    all_goals
      go_wp2_with fail
      go_ret
      exact ⟨rfl, oo.step hX⟩
end Go.Proofs.YtjgaoajbcbpbbaaDoor.end8
