/- The examples of the chapter (lives). -/
import Derived.Test.YtjgaoajbcbpbbaaDoorEndL
import Derived.Deep.RegionHeld3
import Derived.Deep.CutRange
import Derived.Deep.DeepCutAuto
import Derived.Deep.CutBlock
namespace Go.Proofs.YtjgaoajbcbpbbaaDoor.end8
open Go.RowKit

theorem tx7 : enT 0 (-7) = ⟨#[45, 55]⟩ := by
  have h : Lib.decDigits 7 = [55] := by rw [Lib.decDigits, dif_pos (by decide)]; rfl
  unfold enT
  rw [if_pos (by decide), enS_zero]
  unfold Lib.itoa
  rw [if_pos (by decide), show (-7 : Int).natAbs = 7 by decide, h]
theorem txm : enT (-1) 0 = ⟨#[45, 105, 110, 102]⟩ := by decide
theorem p1 : prI ⟨#[105, 110, 102]⟩ = 1 ∧ prD ⟨#[105, 110, 102]⟩ = 0 ∧ prE ⟨#[105, 110, 102]⟩ = 0 := by decide +kernel
theorem p2 : prI ⟨#[43, 105, 110, 102]⟩ = 0 ∧ prD ⟨#[43, 105, 110, 102]⟩ = 0 ∧ prE ⟨#[43, 105, 110, 102]⟩ = 5 := by decide +kernel
theorem p3 : prI ⟨#[57, 50, 50, 51, 51, 55, 50, 48, 51, 54, 56, 53, 52, 55, 55, 53, 56, 48, 56]⟩ = 0 ∧ prD ⟨#[57, 50, 50, 51, 51, 55, 50, 48, 51, 54, 56, 53, 52, 55, 55, 53, 56, 48, 56]⟩ = 0 ∧ prE ⟨#[57, 50, 50, 51, 51, 55, 50, 48, 51, 54, 56, 53, 52, 55, 55, 53, 56, 48, 56]⟩ = 15 := by decide +kernel
theorem size_alloc (W : World) (o : Obj) : (W.alloc o).heap.size = W.heap.size + 1 := by simp
set_option maxRecDepth 100000 in
set_option maxHeartbeats 8000000 in
theorem lives_t (w W : World) (h0 : Ok w W) : Calls Tryd.prog 12 #[] W fun e w' => e = .returned (.bool true) ∧ Ok w w' := by
  have ho := h0
  clear h0
  go_enter Tryd.func12, Tryd.ntmps12
  go_upto_region 2 with fail
  have hB' := Bs.new (Bs.new (show Bs W [] from trivial) (-1) 0) 1 0
  rw [size_alloc] at hB'
  have o' : Ok w ((W.alloc (Obj.cells #[Value.int IntKind.i8 (-1), Value.int IntKind.i64 0] 24)).alloc (Obj.cells #[Value.int IntKind.i8 1, Value.int IntKind.i64 0] 24)) := (ho).step (by go_grown)
  generalize ((W.alloc (Obj.cells #[Value.int IntKind.i8 (-1), Value.int IntKind.i64 0] 24)).alloc (Obj.cells #[Value.int IntKind.i8 1, Value.int IntKind.i64 0] 24)) = W2 at *
  generalize W.heap.size + 1 = g2 at *
  generalize W.heap.size = g1 at *
  clear ho
  have hr := Ok.refl o'.1
  have oo := o'
  have hB := hB'
  clear o' hB'
  go_upto_region 3 with (first
    | (go_at_call 20; ((with_reducible refine (c_of (w := W2) hr 9223372036854775807 (by unfold I64; omega)).mono ?_); rintro e x1 ⟨rfl, hk1⟩))
    | (go_at_call 20; ((with_reducible refine (c_of (w := W2) hk1 (-9223372036854775808) (by unfold I64; omega)).mono ?_); rintro e x2 ⟨rfl, hk2⟩)))
  have ob := oo.step hk2.2
  have hBb := hB.below hk2.2
  clear hk1 hk2 hB oo hr
  have hB' := Bs.new (Bs.new hBb 0 9223372036854775807) 0 (-9223372036854775808)
  rw [size_alloc] at hB'
  have o' : Ok w ((x2.alloc (Obj.cells #[Value.int IntKind.i8 0, Value.int IntKind.i64 9223372036854775807] 24)).alloc (Obj.cells #[Value.int IntKind.i8 0, Value.int IntKind.i64 (-9223372036854775808)] 24)) := (ob).step (by go_grown)
  generalize ((x2.alloc (Obj.cells #[Value.int IntKind.i8 0, Value.int IntKind.i64 9223372036854775807] 24)).alloc (Obj.cells #[Value.int IntKind.i8 0, Value.int IntKind.i64 (-9223372036854775808)] 24)) = W4 at *
  generalize x2.heap.size + 1 = g4 at *
  generalize x2.heap.size = g3 at *
  clear ob hBb
  have hr := Ok.refl o'.1
  have oo := o'
  have hB := hB'
  clear o' hB'
  obtain ⟨⟨bg4, lg4⟩, ⟨bg3, lg3⟩, ⟨bg2, lg2⟩, ⟨bg1, lg1⟩, -⟩ := id hB
  obtain ⟨fg40, fg41⟩ := bg4.duo
  obtain ⟨fg30, fg31⟩ := bg3.duo
  obtain ⟨fg20, fg21⟩ := bg2.duo
  obtain ⟨fg10, fg11⟩ := bg1.duo
  clear bg4 lg4 bg3 lg3 bg2 lg2 bg1 lg1
  go_upto_region 5 with (first
    | (go_at_call 8; ((with_reducible refine (c_cmp (w := W4) hr (-1) 0 0 (-9223372036854775808) (by unfold I8; omega) (by unfold I64; omega) (by unfold I8; omega) (by unfold I64; omega) (n := -1) (by decide)).mono ?_); rintro e w' ⟨rfl, hk⟩; (try clear hX); have hX := hk.2; (try clear mg40 mg41 mg30 mg31 mg20 mg21 mg10 mg11); obtain ⟨⟨bg4, lg4⟩, ⟨bg3, lg3⟩, ⟨bg2, lg2⟩, ⟨bg1, lg1⟩, -⟩ := hB.below hk.2; obtain ⟨mg40, mg41⟩ := bg4.duo; obtain ⟨mg30, mg31⟩ := bg3.duo; obtain ⟨mg20, mg21⟩ := bg2.duo; obtain ⟨mg10, mg11⟩ := bg1.duo; clear bg4 lg4 bg3 lg3 bg2 lg2 bg1 lg1; clear hk))
    | (go_at_call 8; ((with_reducible refine (c_cmp (w := W4) (hr.step (by go_grown)) 1 0 0 9223372036854775807 (by unfold I8; omega) (by unfold I64; omega) (by unfold I8; omega) (by unfold I64; omega) (n := 1) (by decide)).mono ?_); rintro e w' ⟨rfl, hk⟩; (try clear hX); have hX := hk.2; (try clear mg40 mg41 mg30 mg31 mg20 mg21 mg10 mg11); obtain ⟨⟨bg4, lg4⟩, ⟨bg3, lg3⟩, ⟨bg2, lg2⟩, ⟨bg1, lg1⟩, -⟩ := hB.below hk.2; obtain ⟨mg40, mg41⟩ := bg4.duo; obtain ⟨mg30, mg31⟩ := bg3.duo; obtain ⟨mg20, mg21⟩ := bg2.duo; obtain ⟨mg10, mg11⟩ := bg1.duo; clear bg4 lg4 bg3 lg3 bg2 lg2 bg1 lg1; clear hk))
    | (go_at_call 20; ((with_reducible refine (c_of (w := W4) (hr.step (by go_grown)) 3 (by unfold I64; omega)).mono ?_); rintro e w' ⟨rfl, hk⟩; (try clear hX); have hX := hk.2; (try clear mg40 mg41 mg30 mg31 mg20 mg21 mg10 mg11); obtain ⟨⟨bg4, lg4⟩, ⟨bg3, lg3⟩, ⟨bg2, lg2⟩, ⟨bg1, lg1⟩, -⟩ := hB.below hk.2; obtain ⟨mg40, mg41⟩ := bg4.duo; obtain ⟨mg30, mg31⟩ := bg3.duo; obtain ⟨mg20, mg21⟩ := bg2.duo; obtain ⟨mg10, mg11⟩ := bg1.duo; clear bg4 lg4 bg3 lg3 bg2 lg2 bg1 lg1; clear hk))
    | (go_at_call 8; ((with_reducible refine (c_cmp (w := W4) (hr.step (by go_grown)) 0 3 0 3 (by unfold I8; omega) (by unfold I64; omega) (by unfold I8; omega) (by unfold I64; omega) (n := 0) (by decide)).mono ?_); rintro e w' ⟨rfl, hk⟩; (try clear hX); have hX := hk.2; (try clear mg40 mg41 mg30 mg31 mg20 mg21 mg10 mg11); obtain ⟨⟨bg4, lg4⟩, ⟨bg3, lg3⟩, ⟨bg2, lg2⟩, ⟨bg1, lg1⟩, -⟩ := hB.below hk.2; obtain ⟨mg40, mg41⟩ := bg4.duo; obtain ⟨mg30, mg31⟩ := bg3.duo; obtain ⟨mg20, mg21⟩ := bg2.duo; obtain ⟨mg10, mg11⟩ := bg1.duo; clear bg4 lg4 bg3 lg3 bg2 lg2 bg1 lg1; clear hk)))
  have ob := oo.step hX
  have hBb := hB.below hX
  clear oo hB hr mg40 mg41 mg30 mg31 mg20 mg21 mg10 mg11
  have hr := Ok.refl ob.1
  have oo := ob
  have hB := hBb
  clear ob hBb hX
  go_upto_region 6 with (first
    | (go_at_call 20; ((with_reducible refine (c_of (w := _) hr 5 (by unfold I64; omega)).mono ?_); rintro e y1 ⟨rfl, hk1⟩))
    | (go_at_call 13; ((with_reducible refine (c_next (w := _) hk1 0 5 (by unfold I8; omega) (by unfold I64; omega) (a := 0) (b := 6) (e := 0) (by decide) (by decide) (by decide)).mono ?_); rintro e y2 ⟨rfl, hk2⟩)))
  have ob := oo.step hk2.2
  have hB' := Bs.new (hB.below hk2.2) 0 6
  have o' := ob.step (end_new _ 0 6 _ rfl).2.2
  clear oo hB hr ob
  generalize (y2.alloc (Obj.cells #[Value.int IntKind.i8 0, Value.int IntKind.i64 6] 24)) = W5 at *
  generalize y2.heap.size = g5 at *
  clear hk2
  have hr := Ok.refl o'.1
  have oo := o'
  have hB := hB'
  clear o' hB'
  obtain ⟨⟨bg5, lg5⟩, ⟨bg4, lg4⟩, ⟨bg3, lg3⟩, ⟨bg2, lg2⟩, ⟨bg1, lg1⟩, -⟩ := id hB
  obtain ⟨fg50, fg51⟩ := bg5.duo
  obtain ⟨fg40, fg41⟩ := bg4.duo
  obtain ⟨fg30, fg31⟩ := bg3.duo
  obtain ⟨fg20, fg21⟩ := bg2.duo
  obtain ⟨fg10, fg11⟩ := bg1.duo
  clear bg5 lg5 bg4 lg4 bg3 lg3 bg2 lg2 bg1 lg1
  go_upto_region 7 with (first
    | (go_at_call 13; ((with_reducible refine (c_next (w := W5) hr 1 0 (by unfold I8; omega) (by unfold I64; omega) (a := 1) (b := 0) (e := 0) (by decide) (by decide) (by decide)).mono ?_); rintro e y3 ⟨rfl, hk3⟩)))
  have ob := oo.step hk3.2
  have hB' := Bs.new (hB.below hk3.2) 1 0
  have o' := ob.step (end_new _ 1 0 _ rfl).2.2
  clear oo hB hr ob
  generalize (y3.alloc (Obj.cells #[Value.int IntKind.i8 1, Value.int IntKind.i64 0] 24)) = W6 at *
  generalize y3.heap.size = g6 at *
  clear hk3
  have hr := Ok.refl o'.1
  have oo := o'
  have hB := hB'
  clear o' hB'
  obtain ⟨⟨bg6, lg6⟩, ⟨bg5, lg5⟩, ⟨bg4, lg4⟩, ⟨bg3, lg3⟩, ⟨bg2, lg2⟩, ⟨bg1, lg1⟩, -⟩ := id hB
  obtain ⟨fg60, fg61⟩ := bg6.duo
  obtain ⟨fg50, fg51⟩ := bg5.duo
  obtain ⟨fg40, fg41⟩ := bg4.duo
  obtain ⟨fg30, fg31⟩ := bg3.duo
  obtain ⟨fg20, fg21⟩ := bg2.duo
  obtain ⟨fg10, fg11⟩ := bg1.duo
  clear bg6 lg6 bg5 lg5 bg4 lg4 bg3 lg3 bg2 lg2 bg1 lg1
  go_upto_region 8 with (first
    | (go_at_call 13; ((with_reducible refine (c_next (w := W6) hr 0 9223372036854775807 (by unfold I8; omega) (by unfold I64; omega) (a := 0) (b := 0) (e := 15) (by decide) (by decide) (by decide)).mono ?_); rintro e y4 ⟨rfl, hk4⟩)))
  have ob := oo.step hk4.2
  have hB' := Bs.new (hB.below hk4.2) 0 0
  have o' := ob.step (end_new _ 0 0 _ rfl).2.2
  clear oo hB hr ob
  generalize (y4.alloc (Obj.cells #[Value.int IntKind.i8 0, Value.int IntKind.i64 0] 24)) = W7 at *
  generalize y4.heap.size = g7 at *
  clear hk4
  have hr := Ok.refl o'.1
  have oo := o'
  have hB := hB'
  clear o' hB'
  obtain ⟨⟨bg7, lg7⟩, ⟨bg6, lg6⟩, ⟨bg5, lg5⟩, ⟨bg4, lg4⟩, ⟨bg3, lg3⟩, ⟨bg2, lg2⟩, ⟨bg1, lg1⟩, -⟩ := id hB
  obtain ⟨fg70, fg71⟩ := bg7.duo
  obtain ⟨fg60, fg61⟩ := bg6.duo
  obtain ⟨fg50, fg51⟩ := bg5.duo
  obtain ⟨fg40, fg41⟩ := bg4.duo
  obtain ⟨fg30, fg31⟩ := bg3.duo
  obtain ⟨fg20, fg21⟩ := bg2.duo
  obtain ⟨fg10, fg11⟩ := bg1.duo
  clear bg7 lg7 bg6 lg6 bg5 lg5 bg4 lg4 bg3 lg3 bg2 lg2 bg1 lg1
  go_upto_region 9 with (first
    | (go_at_call 14; ((with_reducible refine (c_prev (w := W7) hr 0 (-9223372036854775808) (by unfold I8; omega) (by unfold I64; omega) (a := 0) (b := 0) (e := 15) (by decide) (by decide) (by decide)).mono ?_); rintro e y5 ⟨rfl, hk5⟩)))
  have ob := oo.step hk5.2
  have hB' := Bs.new (hB.below hk5.2) 0 0
  have o' := ob.step (end_new _ 0 0 _ rfl).2.2
  clear oo hB hr ob
  generalize (y5.alloc (Obj.cells #[Value.int IntKind.i8 0, Value.int IntKind.i64 0] 24)) = W8 at *
  generalize y5.heap.size = g8 at *
  clear hk5
  have hr := Ok.refl o'.1
  have oo := o'
  have hB := hB'
  clear o' hB'
  obtain ⟨⟨bg8, lg8⟩, ⟨bg7, lg7⟩, ⟨bg6, lg6⟩, ⟨bg5, lg5⟩, ⟨bg4, lg4⟩, ⟨bg3, lg3⟩, ⟨bg2, lg2⟩, ⟨bg1, lg1⟩, -⟩ := id hB
  obtain ⟨fg80, fg81⟩ := bg8.duo
  obtain ⟨fg70, fg71⟩ := bg7.duo
  obtain ⟨fg60, fg61⟩ := bg6.duo
  obtain ⟨fg50, fg51⟩ := bg5.duo
  obtain ⟨fg40, fg41⟩ := bg4.duo
  obtain ⟨fg30, fg31⟩ := bg3.duo
  obtain ⟨fg20, fg21⟩ := bg2.duo
  obtain ⟨fg10, fg11⟩ := bg1.duo
  clear bg8 lg8 bg7 lg7 bg6 lg6 bg5 lg5 bg4 lg4 bg3 lg3 bg2 lg2 bg1 lg1
  have q1 := fun w => ne_any (-1) 0 (-1) 0 w
  have q2 := fun w => ne_any 1 0 1 0 w
  rw [eqE_same] at q1 q2
  go_cut [98] (fun sb wx => sb = .bool false ∧ Below W8.heap.size W8 wx)
  case first =>
    go_region_held3 (fun w' => w'.cell? ⟨g8, 0, none⟩ = some (.int .i8 0) ∧ w'.cell? ⟨g8, 1, none⟩ = some (.int .i64 0) ∧ w'.cell? ⟨g7, 0, none⟩ = some (.int .i8 0) ∧ w'.cell? ⟨g7, 1, none⟩ = some (.int .i64 0) ∧ w'.cell? ⟨g6, 0, none⟩ = some (.int .i8 1) ∧ w'.cell? ⟨g6, 1, none⟩ = some (.int .i64 0) ∧ w'.cell? ⟨g5, 0, none⟩ = some (.int .i8 0) ∧ w'.cell? ⟨g5, 1, none⟩ = some (.int .i64 6) ∧ w'.cell? ⟨g4, 0, none⟩ = some (.int .i8 0) ∧ w'.cell? ⟨g4, 1, none⟩ = some (.int .i64 (-9223372036854775808)) ∧ w'.cell? ⟨g3, 0, none⟩ = some (.int .i8 0) ∧ w'.cell? ⟨g3, 1, none⟩ = some (.int .i64 9223372036854775807) ∧ w'.cell? ⟨g2, 0, none⟩ = some (.int .i8 1) ∧ w'.cell? ⟨g2, 1, none⟩ = some (.int .i64 0) ∧ w'.cell? ⟨g1, 0, none⟩ = some (.int .i8 (-1)) ∧ w'.cell? ⟨g1, 1, none⟩ = some (.int .i64 0)) (go_keep)
      (first
        | (go_at_call 20; ((with_reducible refine (c_of (w := W8) (hr.step (by go_grown)) _ (by unfold I64; omega)).mono ?_); rintro e w' ⟨rfl, hk⟩; (try clear hX); have hX := hk.2; (try clear mg80 mg81 mg70 mg71 mg60 mg61 mg50 mg51 mg40 mg41 mg30 mg31 mg20 mg21 mg10 mg11); obtain ⟨⟨bg8, lg8⟩, ⟨bg7, lg7⟩, ⟨bg6, lg6⟩, ⟨bg5, lg5⟩, ⟨bg4, lg4⟩, ⟨bg3, lg3⟩, ⟨bg2, lg2⟩, ⟨bg1, lg1⟩, -⟩ := hB.below hk.2; obtain ⟨mg80, mg81⟩ := bg8.duo; obtain ⟨mg70, mg71⟩ := bg7.duo; obtain ⟨mg60, mg61⟩ := bg6.duo; obtain ⟨mg50, mg51⟩ := bg5.duo; obtain ⟨mg40, mg41⟩ := bg4.duo; obtain ⟨mg30, mg31⟩ := bg3.duo; obtain ⟨mg20, mg21⟩ := bg2.duo; obtain ⟨mg10, mg11⟩ := bg1.duo; clear bg8 lg8 bg7 lg7 bg6 lg6 bg5 lg5 bg4 lg4 bg3 lg3 bg2 lg2 bg1 lg1; clear hk))
        | (go_at_call 19; ((with_reducible refine (c_gok (w := W8) (hr.step (by go_grown)) (by rfl) (by rfl) (by rfl) (by rfl)).mono ?_); rintro e w' ⟨rfl, hk⟩; (try clear hX); have hX := hk.2; (try clear mg80 mg81 mg70 mg71 mg60 mg61 mg50 mg51 mg40 mg41 mg30 mg31 mg20 mg21 mg10 mg11); obtain ⟨⟨bg8, lg8⟩, ⟨bg7, lg7⟩, ⟨bg6, lg6⟩, ⟨bg5, lg5⟩, ⟨bg4, lg4⟩, ⟨bg3, lg3⟩, ⟨bg2, lg2⟩, ⟨bg1, lg1⟩, -⟩ := hB.below hk.2; obtain ⟨mg80, mg81⟩ := bg8.duo; obtain ⟨mg70, mg71⟩ := bg7.duo; obtain ⟨mg60, mg61⟩ := bg6.duo; obtain ⟨mg50, mg51⟩ := bg5.duo; obtain ⟨mg40, mg41⟩ := bg4.duo; obtain ⟨mg30, mg31⟩ := bg3.duo; obtain ⟨mg20, mg21⟩ := bg2.duo; obtain ⟨mg10, mg11⟩ := bg1.duo; clear bg8 lg8 bg7 lg7 bg6 lg6 bg5 lg5 bg4 lg4 bg3 lg3 bg2 lg2 bg1 lg1; clear hk))
        | (go_at_call 19; ((with_reducible refine (c_gbad (w := W8) (hr.step (by go_grown)) (by rfl) (by rfl) (by decide) (by rfl)).mono ?_); rintro e w' ⟨rfl, hk⟩; (try clear hX); have hX := hk.2; (try clear mg80 mg81 mg70 mg71 mg60 mg61 mg50 mg51 mg40 mg41 mg30 mg31 mg20 mg21 mg10 mg11); obtain ⟨⟨bg8, lg8⟩, ⟨bg7, lg7⟩, ⟨bg6, lg6⟩, ⟨bg5, lg5⟩, ⟨bg4, lg4⟩, ⟨bg3, lg3⟩, ⟨bg2, lg2⟩, ⟨bg1, lg1⟩, -⟩ := hB.below hk.2; obtain ⟨mg80, mg81⟩ := bg8.duo; obtain ⟨mg70, mg71⟩ := bg7.duo; obtain ⟨mg60, mg61⟩ := bg6.duo; obtain ⟨mg50, mg51⟩ := bg5.duo; obtain ⟨mg40, mg41⟩ := bg4.duo; obtain ⟨mg30, mg31⟩ := bg3.duo; obtain ⟨mg20, mg21⟩ := bg2.duo; obtain ⟨mg10, mg11⟩ := bg1.duo; clear bg8 lg8 bg7 lg7 bg6 lg6 bg5 lg5 bg4 lg4 bg3 lg3 bg2 lg2 bg1 lg1; clear hk))
        | (go_at_call 10; ((with_reducible refine (c_min (w := W8) (hr.step (by go_grown)) (-1) 0 0 3 (by unfold I8; omega) (by unfold I64; omega) (by unfold I8; omega) (by unfold I64; omega) (a := -1) (b := 0) (by decide) (by decide)).mono ?_); rintro e w' ⟨rfl, hk⟩; (try clear hX); have hX := hk.2; (try clear mg80 mg81 mg70 mg71 mg60 mg61 mg50 mg51 mg40 mg41 mg30 mg31 mg20 mg21 mg10 mg11); obtain ⟨⟨bg8, lg8⟩, ⟨bg7, lg7⟩, ⟨bg6, lg6⟩, ⟨bg5, lg5⟩, ⟨bg4, lg4⟩, ⟨bg3, lg3⟩, ⟨bg2, lg2⟩, ⟨bg1, lg1⟩, -⟩ := hB.below hk.2; obtain ⟨mg80, mg81⟩ := bg8.duo; obtain ⟨mg70, mg71⟩ := bg7.duo; obtain ⟨mg60, mg61⟩ := bg6.duo; obtain ⟨mg50, mg51⟩ := bg5.duo; obtain ⟨mg40, mg41⟩ := bg4.duo; obtain ⟨mg30, mg31⟩ := bg3.duo; obtain ⟨mg20, mg21⟩ := bg2.duo; obtain ⟨mg10, mg11⟩ := bg1.duo; clear bg8 lg8 bg7 lg7 bg6 lg6 bg5 lg5 bg4 lg4 bg3 lg3 bg2 lg2 bg1 lg1; clear hk))
        | (go_at_call 11; ((with_reducible refine (c_max (w := W8) (hr.step (by go_grown)) 0 4 1 0 (by unfold I8; omega) (by unfold I64; omega) (by unfold I8; omega) (by unfold I64; omega) (a := 1) (b := 0) (by decide) (by decide)).mono ?_); rintro e w' ⟨rfl, hk⟩; (try clear hX); have hX := hk.2; (try clear mg80 mg81 mg70 mg71 mg60 mg61 mg50 mg51 mg40 mg41 mg30 mg31 mg20 mg21 mg10 mg11); obtain ⟨⟨bg8, lg8⟩, ⟨bg7, lg7⟩, ⟨bg6, lg6⟩, ⟨bg5, lg5⟩, ⟨bg4, lg4⟩, ⟨bg3, lg3⟩, ⟨bg2, lg2⟩, ⟨bg1, lg1⟩, -⟩ := hB.below hk.2; obtain ⟨mg80, mg81⟩ := bg8.duo; obtain ⟨mg70, mg71⟩ := bg7.duo; obtain ⟨mg60, mg61⟩ := bg6.duo; obtain ⟨mg50, mg51⟩ := bg5.duo; obtain ⟨mg40, mg41⟩ := bg4.duo; obtain ⟨mg30, mg31⟩ := bg3.duo; obtain ⟨mg20, mg21⟩ := bg2.duo; obtain ⟨mg10, mg11⟩ := bg1.duo; clear bg8 lg8 bg7 lg7 bg6 lg6 bg5 lg5 bg4 lg4 bg3 lg3 bg2 lg2 bg1 lg1; clear hk)))
    all_goals
      go_wp2_with fail
      go_meet
      exact ⟨rfl, hX⟩
  case rest =>
    obtain ⟨rfl, hX⟩ := hcut
    have ob := oo.step hX
    have hBb := hB.below hX
    clear oo hB hr fg80 fg81 fg70 fg71 fg60 fg61 fg50 fg51 fg40 fg41 fg30 fg31 fg20 fg21 fg10 fg11 q1 q2 hX
    have hr := Ok.refl ob.1
    have oo := ob
    have hB := hBb
    clear ob hBb
    go_upto_region 12 with (first
      | (go_at_call 20; ((with_reducible refine (c_of (w := wc) hr (-7) (by unfold I64; omega)).mono ?_); rintro e y1 ⟨rfl, hk1⟩))
      | (go_at_call 21; ((with_reducible refine (c_text (w := wc) hk1 0 (-7) (by unfold I8; omega) (by unfold I64; omega) tx7 (e := 0) (by decide)).mono ?_); rintro e y2 ⟨rfl, hk2⟩)))
    have ob := oo.step hk2.2
    have hBb := hB.below hk2.2
    clear oo hB hr hk1 hk2
    have hr := Ok.refl ob.1
    have oo := ob
    have hB := hBb
    clear ob hBb
    obtain ⟨⟨bg8, lg8⟩, ⟨bg7, lg7⟩, ⟨bg6, lg6⟩, ⟨bg5, lg5⟩, ⟨bg4, lg4⟩, ⟨bg3, lg3⟩, ⟨bg2, lg2⟩, ⟨bg1, lg1⟩, -⟩ := id hB
    obtain ⟨fg80, fg81⟩ := bg8.duo
    obtain ⟨fg70, fg71⟩ := bg7.duo
    obtain ⟨fg60, fg61⟩ := bg6.duo
    obtain ⟨fg50, fg51⟩ := bg5.duo
    obtain ⟨fg40, fg41⟩ := bg4.duo
    obtain ⟨fg30, fg31⟩ := bg3.duo
    obtain ⟨fg20, fg21⟩ := bg2.duo
    obtain ⟨fg10, fg11⟩ := bg1.duo
    clear bg8 lg8 bg7 lg7 bg6 lg6 bg5 lg5 bg4 lg4 bg3 lg3 bg2 lg2 bg1 lg1
    go_upto_region 13 with (go_at_call 21; ((with_reducible refine (c_text (w := y2) hr (-1) 0 (by unfold I8; omega) (by unfold I64; omega) txm (e := 0) (by decide)).mono ?_); rintro e y3 ⟨rfl, hk3⟩))
    have ob := oo.step hk3.2
    have hBb := hB.below hk3.2
    clear oo hB hr hk3
    have hr := Ok.refl ob.1
    have oo := ob
    have hB := hBb
    clear ob hBb
    go_upto_region 14 with (first
      | (go_at_call 22; ((with_reducible refine (c_parse (w := y3) hr ⟨#[105, 110, 102]⟩ (by decide) (a := 1) (b := 0) (e := 0) p1.1 p1.2.1 p1.2.2).mono ?_); rintro e y4 ⟨rfl, hk4⟩)))
    have ob := oo.step hk4.2
    have hB' := Bs.new (hB.below hk4.2) 1 0
    have o' := ob.step (end_new _ 1 0 _ rfl).2.2
    clear oo hB hr ob
    generalize (y4.alloc (Obj.cells #[Value.int IntKind.i8 1, Value.int IntKind.i64 0] 24)) = W9 at *
    generalize y4.heap.size = g9 at *
    clear hk4
    have hr := Ok.refl o'.1
    have oo := o'
    have hB := hB'
    clear o' hB'
    go_upto_region 15 with (first
      | (go_at_call 22; ((with_reducible refine (c_parse (w := W9) hr ⟨#[43, 105, 110, 102]⟩ (by decide) (a := 0) (b := 0) (e := 5) p2.1 p2.2.1 p2.2.2).mono ?_); rintro e y5 ⟨rfl, hk5⟩)))
    have ob := oo.step hk5.2
    have hB' := Bs.new (hB.below hk5.2) 0 0
    have o' := ob.step (end_new _ 0 0 _ rfl).2.2
    clear oo hB hr ob
    generalize (y5.alloc (Obj.cells #[Value.int IntKind.i8 0, Value.int IntKind.i64 0] 24)) = W10 at *
    generalize y5.heap.size = g10 at *
    clear hk5
    have hr := Ok.refl o'.1
    have oo := o'
    have hB := hB'
    clear o' hB'
    go_upto_region 16 with (first
      | (go_at_call 22; ((with_reducible refine (c_parse (w := W10) hr ⟨#[57, 50, 50, 51, 51, 55, 50, 48, 51, 54, 56, 53, 52, 55, 55, 53, 56, 48, 56]⟩ (by decide) (a := 0) (b := 0) (e := 15) p3.1 p3.2.1 p3.2.2).mono ?_); rintro e y6 ⟨rfl, hk6⟩)))
    have ob := oo.step hk6.2
    have hB' := Bs.new (hB.below hk6.2) 0 0
    have o' := ob.step (end_new _ 0 0 _ rfl).2.2
    clear oo hB hr ob
    generalize (y6.alloc (Obj.cells #[Value.int IntKind.i8 0, Value.int IntKind.i64 0] 24)) = W11 at *
    generalize y6.heap.size = g11 at *
    clear hk6
    have hr := Ok.refl o'.1
    have oo := o'
    have hB := hB'
    clear o' hB'
    obtain ⟨⟨bg11, lg11⟩, ⟨bg10, lg10⟩, ⟨bg9, lg9⟩, ⟨bg8, lg8⟩, ⟨bg7, lg7⟩, ⟨bg6, lg6⟩, ⟨bg5, lg5⟩, ⟨bg4, lg4⟩, ⟨bg3, lg3⟩, ⟨bg2, lg2⟩, ⟨bg1, lg1⟩, -⟩ := id hB
    obtain ⟨fg110, fg111⟩ := bg11.duo
    obtain ⟨fg100, fg101⟩ := bg10.duo
    obtain ⟨fg90, fg91⟩ := bg9.duo
    obtain ⟨fg80, fg81⟩ := bg8.duo
    obtain ⟨fg70, fg71⟩ := bg7.duo
    obtain ⟨fg60, fg61⟩ := bg6.duo
    obtain ⟨fg50, fg51⟩ := bg5.duo
    obtain ⟨fg40, fg41⟩ := bg4.duo
    obtain ⟨fg30, fg31⟩ := bg3.duo
    obtain ⟨fg20, fg21⟩ := bg2.duo
    obtain ⟨fg10, fg11⟩ := bg1.duo
    clear bg11 lg11 bg10 lg10 bg9 lg9 bg8 lg8 bg7 lg7 bg6 lg6 bg5 lg5 bg4 lg4 bg3 lg3 bg2 lg2 bg1 lg1
    go_wp2_with (first
      | (go_at_call 19; ((with_reducible refine (c_gok (w := W11) (hr.step (by go_grown)) (by rfl) (by rfl) (by rfl) (by rfl)).mono ?_); rintro e w' ⟨rfl, hk⟩; (try clear hX); have hX := hk.2; (try clear mg110 mg111 mg100 mg101 mg90 mg91 mg80 mg81 mg70 mg71 mg60 mg61 mg50 mg51 mg40 mg41 mg30 mg31 mg20 mg21 mg10 mg11); obtain ⟨⟨bg11, lg11⟩, ⟨bg10, lg10⟩, ⟨bg9, lg9⟩, ⟨bg8, lg8⟩, ⟨bg7, lg7⟩, ⟨bg6, lg6⟩, ⟨bg5, lg5⟩, ⟨bg4, lg4⟩, ⟨bg3, lg3⟩, ⟨bg2, lg2⟩, ⟨bg1, lg1⟩, -⟩ := hB.below hk.2; obtain ⟨mg110, mg111⟩ := bg11.duo; obtain ⟨mg100, mg101⟩ := bg10.duo; obtain ⟨mg90, mg91⟩ := bg9.duo; obtain ⟨mg80, mg81⟩ := bg8.duo; obtain ⟨mg70, mg71⟩ := bg7.duo; obtain ⟨mg60, mg61⟩ := bg6.duo; obtain ⟨mg50, mg51⟩ := bg5.duo; obtain ⟨mg40, mg41⟩ := bg4.duo; obtain ⟨mg30, mg31⟩ := bg3.duo; obtain ⟨mg20, mg21⟩ := bg2.duo; obtain ⟨mg10, mg11⟩ := bg1.duo; clear bg11 lg11 bg10 lg10 bg9 lg9 bg8 lg8 bg7 lg7 bg6 lg6 bg5 lg5 bg4 lg4 bg3 lg3 bg2 lg2 bg1 lg1; clear hk))
      | (go_at_call 19; ((with_reducible refine (c_gbad (w := W11) (hr.step (by go_grown)) (by rfl) (by rfl) (by decide) (by rfl)).mono ?_); rintro e w' ⟨rfl, hk⟩; (try clear hX); have hX := hk.2; (try clear mg110 mg111 mg100 mg101 mg90 mg91 mg80 mg81 mg70 mg71 mg60 mg61 mg50 mg51 mg40 mg41 mg30 mg31 mg20 mg21 mg10 mg11); obtain ⟨⟨bg11, lg11⟩, ⟨bg10, lg10⟩, ⟨bg9, lg9⟩, ⟨bg8, lg8⟩, ⟨bg7, lg7⟩, ⟨bg6, lg6⟩, ⟨bg5, lg5⟩, ⟨bg4, lg4⟩, ⟨bg3, lg3⟩, ⟨bg2, lg2⟩, ⟨bg1, lg1⟩, -⟩ := hB.below hk.2; obtain ⟨mg110, mg111⟩ := bg11.duo; obtain ⟨mg100, mg101⟩ := bg10.duo; obtain ⟨mg90, mg91⟩ := bg9.duo; obtain ⟨mg80, mg81⟩ := bg8.duo; obtain ⟨mg70, mg71⟩ := bg7.duo; obtain ⟨mg60, mg61⟩ := bg6.duo; obtain ⟨mg50, mg51⟩ := bg5.duo; obtain ⟨mg40, mg41⟩ := bg4.duo; obtain ⟨mg30, mg31⟩ := bg3.duo; obtain ⟨mg20, mg21⟩ := bg2.duo; obtain ⟨mg10, mg11⟩ := bg1.duo; clear bg11 lg11 bg10 lg10 bg9 lg9 bg8 lg8 bg7 lg7 bg6 lg6 bg5 lg5 bg4 lg4 bg3 lg3 bg2 lg2 bg1 lg1; clear hk))
      | (go_at_call 17; ((with_reducible refine (c_check (w := W11) (hr.step (by go_grown)) 2 0 (by unfold I8; omega) (by unfold I64; omega) (e := 5) (by decide)).mono ?_); rintro e w' ⟨rfl, hk⟩; (try clear hX); have hX := hk.2; (try clear mg110 mg111 mg100 mg101 mg90 mg91 mg80 mg81 mg70 mg71 mg60 mg61 mg50 mg51 mg40 mg41 mg30 mg31 mg20 mg21 mg10 mg11); obtain ⟨⟨bg11, lg11⟩, ⟨bg10, lg10⟩, ⟨bg9, lg9⟩, ⟨bg8, lg8⟩, ⟨bg7, lg7⟩, ⟨bg6, lg6⟩, ⟨bg5, lg5⟩, ⟨bg4, lg4⟩, ⟨bg3, lg3⟩, ⟨bg2, lg2⟩, ⟨bg1, lg1⟩, -⟩ := hB.below hk.2; obtain ⟨mg110, mg111⟩ := bg11.duo; obtain ⟨mg100, mg101⟩ := bg10.duo; obtain ⟨mg90, mg91⟩ := bg9.duo; obtain ⟨mg80, mg81⟩ := bg8.duo; obtain ⟨mg70, mg71⟩ := bg7.duo; obtain ⟨mg60, mg61⟩ := bg6.duo; obtain ⟨mg50, mg51⟩ := bg5.duo; obtain ⟨mg40, mg41⟩ := bg4.duo; obtain ⟨mg30, mg31⟩ := bg3.duo; obtain ⟨mg20, mg21⟩ := bg2.duo; obtain ⟨mg10, mg11⟩ := bg1.duo; clear bg11 lg11 bg10 lg10 bg9 lg9 bg8 lg8 bg7 lg7 bg6 lg6 bg5 lg5 bg4 lg4 bg3 lg3 bg2 lg2 bg1 lg1; clear hk))
      | (go_at_call 17; ((with_reducible refine (c_check (w := W11) (hr.step (by go_grown)) 1 5 (by unfold I8; omega) (by unfold I64; omega) (e := 5) (by decide)).mono ?_); rintro e w' ⟨rfl, hk⟩; (try clear hX); have hX := hk.2; (try clear mg110 mg111 mg100 mg101 mg90 mg91 mg80 mg81 mg70 mg71 mg60 mg61 mg50 mg51 mg40 mg41 mg30 mg31 mg20 mg21 mg10 mg11); obtain ⟨⟨bg11, lg11⟩, ⟨bg10, lg10⟩, ⟨bg9, lg9⟩, ⟨bg8, lg8⟩, ⟨bg7, lg7⟩, ⟨bg6, lg6⟩, ⟨bg5, lg5⟩, ⟨bg4, lg4⟩, ⟨bg3, lg3⟩, ⟨bg2, lg2⟩, ⟨bg1, lg1⟩, -⟩ := hB.below hk.2; obtain ⟨mg110, mg111⟩ := bg11.duo; obtain ⟨mg100, mg101⟩ := bg10.duo; obtain ⟨mg90, mg91⟩ := bg9.duo; obtain ⟨mg80, mg81⟩ := bg8.duo; obtain ⟨mg70, mg71⟩ := bg7.duo; obtain ⟨mg60, mg61⟩ := bg6.duo; obtain ⟨mg50, mg51⟩ := bg5.duo; obtain ⟨mg40, mg41⟩ := bg4.duo; obtain ⟨mg30, mg31⟩ := bg3.duo; obtain ⟨mg20, mg21⟩ := bg2.duo; obtain ⟨mg10, mg11⟩ := bg1.duo; clear bg11 lg11 bg10 lg10 bg9 lg9 bg8 lg8 bg7 lg7 bg6 lg6 bg5 lg5 bg4 lg4 bg3 lg3 bg2 lg2 bg1 lg1; clear hk)))
    go_ret
    exact ⟨rfl, oo.step hX⟩
end Go.Proofs.YtjgaoajbcbpbbaaDoor.end8
