/- The law on the next end and the one before: EndsNext. -/
import Derived.Test.YtjgaoajbcbpbbaaDoorEndLv
import Derived.Deep.RegionWith
namespace Go.Proofs.YtjgaoajbcbpbbaaDoor.end8
open Go.RowKit

theorem size_al (W : World) (o : Obj) : (W.alloc o).heap.size = W.heap.size + 1 := by simp
set_option maxRecDepth 100000 in
set_option maxHeartbeats 8000000 in
theorem next_inf (i d j e a b er p q pe ec : Int) (w W : World) (KL : Hid (∀ B X, Ok B X → Calls Tryd.prog 12 #[] X fun x w' => x = .returned (.bool true) ∧ Ok B w')) (KN : Hid (∀ B X, Ok B X → Calls Tryd.prog 13 #[E2 i d] X fun x w' => x = .returned (.tuple #[E2 a b, .int .i64 er]) ∧ Ok B w')) (KP : Hid (∀ B X, Ok B X → Calls Tryd.prog 14 #[E2 i d] X fun x w' => x = .returned (.tuple #[E2 p q, .int .i64 pe]) ∧ Ok B w')) (KRN : Hid (∀ B X, Ok B X → Calls Tryd.prog 15 #[E2 i d] X fun x w' => x = .returned (.tuple #[E2 a b, .int .i64 er]) ∧ Ok B w')) (KRP : Hid (∀ B X, Ok B X → Calls Tryd.prog 16 #[E2 i d] X fun x w' => x = .returned (.tuple #[E2 p q, .int .i64 pe]) ∧ Ok B w')) (KC : Hid (∀ B X, Ok B X → Calls Tryd.prog 17 #[E2 i d] X fun x w' => x = .returned (.int .i64 ec) ∧ Ok B w')) (KRC : Hid (∀ B X, Ok B X → Calls Tryd.prog 18 #[E2 i d] X fun x w' => x = .returned (.int .i64 ec) ∧ Ok B w')) (KG1 : Hid (∀ B X, Ok B X → Calls Tryd.prog 19 #[E2 a b, .int .i64 er, E2 a b, .int .i64 er] X fun x w' => x = .returned (.bool true) ∧ Ok B w')) (KG2 : Hid (∀ B X, Ok B X → Calls Tryd.prog 19 #[E2 p q, .int .i64 pe, E2 p q, .int .i64 pe] X fun x w' => x = .returned (.bool true) ∧ Ok B w'))
    (hi : ¬ i = 0) (ho : Ok w W) :
    Calls Tryd.prog 4 #[E2 i d, E2 j e] W fun x w' => x = .returned (.bool true) ∧ Ok w w' := by
  have heE : (ec != ec) = false := by simp
  have hi2 : (i != 0) = true := by rw [bne_iff_ne]; exact hi
  go_enter Tryd.func4, Tryd.ntmps4
  go_upto_region 1 with fail
  have hB := Bs.new (Bs.new (show Bs W [] from trivial) i d) j e
  rw [size_al] at hB
  have oo : Ok w ((W.alloc (Obj.cells #[Value.int IntKind.i8 i, Value.int IntKind.i64 d] 24)).alloc (Obj.cells #[Value.int IntKind.i8 j, Value.int IntKind.i64 e] 24)) := ho.step (by go_grown)
  generalize ((W.alloc (Obj.cells #[Value.int IntKind.i8 i, Value.int IntKind.i64 d] 24)).alloc (Obj.cells #[Value.int IntKind.i8 j, Value.int IntKind.i64 e] 24)) = W0 at *
  generalize W.heap.size + 1 = g2 at *
  generalize W.heap.size = g1 at *
  clear ho
  have hr := Ok.refl oo.1
  obtain ⟨⟨bg2, lg2⟩, ⟨bg1, lg1⟩, -⟩ := id hB
  obtain ⟨fg20, fg21⟩ := bg2.duo
  obtain ⟨fg10, fg11⟩ := bg1.duo
  clear bg2 lg2 bg1 lg1
  go_upto_region 2 with (go_at_call 13; ((with_reducible refine (KN.out _ _ hr).mono ?_); rintro e1 w3 ⟨rfl, hk3⟩))
  have hB' := Bs.new (hB.below hk3.2) a b
  have o' := (oo.step hk3.2).step (end_new w3 a b _ rfl).2.2
  clear hB oo hr fg20 fg21 fg10 fg11
  generalize (w3.alloc (Obj.cells #[Value.int IntKind.i8 a, Value.int IntKind.i64 b] 24)) = W3 at *
  generalize w3.heap.size = g3 at *
  clear hk3 KN
  have hB := hB'
  have oo := o'
  clear hB' o'
  have hr := Ok.refl oo.1
  obtain ⟨⟨bg3, lg3⟩, ⟨bg2, lg2⟩, ⟨bg1, lg1⟩, -⟩ := id hB
  obtain ⟨fg30, fg31⟩ := bg3.duo
  obtain ⟨fg20, fg21⟩ := bg2.duo
  obtain ⟨fg10, fg11⟩ := bg1.duo
  clear bg3 lg3 bg2 lg2 bg1 lg1
  go_upto_region 3 with (go_at_call 14; ((with_reducible refine (KP.out _ _ hr).mono ?_); rintro e1 w4 ⟨rfl, hk4⟩))
  have hB' := Bs.new (hB.below hk4.2) p q
  have o' := (oo.step hk4.2).step (end_new w4 p q _ rfl).2.2
  clear hB oo hr fg30 fg31 fg20 fg21 fg10 fg11
  generalize (w4.alloc (Obj.cells #[Value.int IntKind.i8 p, Value.int IntKind.i64 q] 24)) = W4 at *
  generalize w4.heap.size = g4 at *
  clear hk4 KP
  have hB := hB'
  have oo := o'
  clear hB' o'
  have hr := Ok.refl oo.1
  obtain ⟨⟨bg4, lg4⟩, ⟨bg3, lg3⟩, ⟨bg2, lg2⟩, ⟨bg1, lg1⟩, -⟩ := id hB
  obtain ⟨fg40, fg41⟩ := bg4.duo
  obtain ⟨fg30, fg31⟩ := bg3.duo
  obtain ⟨fg20, fg21⟩ := bg2.duo
  obtain ⟨fg10, fg11⟩ := bg1.duo
  clear bg4 lg4 bg3 lg3 bg2 lg2 bg1 lg1
  go_upto_region 4 with (go_at_call 15; ((with_reducible refine (KRN.out _ _ hr).mono ?_); rintro e1 w5 ⟨rfl, hk5⟩))
  have hB' := Bs.new (hB.below hk5.2) a b
  have o' := (oo.step hk5.2).step (end_new w5 a b _ rfl).2.2
  clear hB oo hr fg40 fg41 fg30 fg31 fg20 fg21 fg10 fg11
  generalize (w5.alloc (Obj.cells #[Value.int IntKind.i8 a, Value.int IntKind.i64 b] 24)) = W5 at *
  generalize w5.heap.size = g5 at *
  clear hk5 KRN
  have hB := hB'
  have oo := o'
  clear hB' o'
  have hr := Ok.refl oo.1
  obtain ⟨⟨bg5, lg5⟩, ⟨bg4, lg4⟩, ⟨bg3, lg3⟩, ⟨bg2, lg2⟩, ⟨bg1, lg1⟩, -⟩ := id hB
  obtain ⟨fg50, fg51⟩ := bg5.duo
  obtain ⟨fg40, fg41⟩ := bg4.duo
  obtain ⟨fg30, fg31⟩ := bg3.duo
  obtain ⟨fg20, fg21⟩ := bg2.duo
  obtain ⟨fg10, fg11⟩ := bg1.duo
  clear bg5 lg5 bg4 lg4 bg3 lg3 bg2 lg2 bg1 lg1
  go_upto_region 5 with (go_at_call 16; ((with_reducible refine (KRP.out _ _ hr).mono ?_); rintro e1 w6 ⟨rfl, hk6⟩))
  have hB' := Bs.new (hB.below hk6.2) p q
  have o' := (oo.step hk6.2).step (end_new w6 p q _ rfl).2.2
  clear hB oo hr fg50 fg51 fg40 fg41 fg30 fg31 fg20 fg21 fg10 fg11
  generalize (w6.alloc (Obj.cells #[Value.int IntKind.i8 p, Value.int IntKind.i64 q] 24)) = W6 at *
  generalize w6.heap.size = g6 at *
  clear hk6 KRP
  have hB := hB'
  have oo := o'
  clear hB' o'
  have hr := Ok.refl oo.1
  obtain ⟨⟨bg6, lg6⟩, ⟨bg5, lg5⟩, ⟨bg4, lg4⟩, ⟨bg3, lg3⟩, ⟨bg2, lg2⟩, ⟨bg1, lg1⟩, -⟩ := id hB
  obtain ⟨fg60, fg61⟩ := bg6.duo
  obtain ⟨fg50, fg51⟩ := bg5.duo
  obtain ⟨fg40, fg41⟩ := bg4.duo
  obtain ⟨fg30, fg31⟩ := bg3.duo
  obtain ⟨fg20, fg21⟩ := bg2.duo
  obtain ⟨fg10, fg11⟩ := bg1.duo
  clear bg6 lg6 bg5 lg5 bg4 lg4 bg3 lg3 bg2 lg2 bg1 lg1
  go_cut [55] (fun v wx => v = .bool false ∧ Below W6.heap.size W6 wx)
  case first =>
    have hee := heE
    go_region_held3 (fun x => x.cell? ⟨g6, 0, none⟩ = some (.int .i8 p) ∧ x.cell? ⟨g6, 1, none⟩ = some (.int .i64 q) ∧ x.cell? ⟨g5, 0, none⟩ = some (.int .i8 a) ∧ x.cell? ⟨g5, 1, none⟩ = some (.int .i64 b) ∧ x.cell? ⟨g4, 0, none⟩ = some (.int .i8 p) ∧ x.cell? ⟨g4, 1, none⟩ = some (.int .i64 q) ∧ x.cell? ⟨g3, 0, none⟩ = some (.int .i8 a) ∧ x.cell? ⟨g3, 1, none⟩ = some (.int .i64 b) ∧ x.cell? ⟨g2, 0, none⟩ = some (.int .i8 j) ∧ x.cell? ⟨g2, 1, none⟩ = some (.int .i64 e) ∧ x.cell? ⟨g1, 0, none⟩ = some (.int .i8 i) ∧ x.cell? ⟨g1, 1, none⟩ = some (.int .i64 d)) (go_keep)
      (first
        | (go_at_call 17; ((with_reducible refine (KC.out _ _ (hr.step (by go_grown))).mono ?_); rintro e1 w' ⟨rfl, hk⟩; (try clear hX); have hX := hk.2; (try clear mg60 mg61 mg50 mg51 mg40 mg41 mg30 mg31 mg20 mg21 mg10 mg11); obtain ⟨⟨bg6, lg6⟩, ⟨bg5, lg5⟩, ⟨bg4, lg4⟩, ⟨bg3, lg3⟩, ⟨bg2, lg2⟩, ⟨bg1, lg1⟩, -⟩ := hB.below hk.2; obtain ⟨mg60, mg61⟩ := bg6.duo; obtain ⟨mg50, mg51⟩ := bg5.duo; obtain ⟨mg40, mg41⟩ := bg4.duo; obtain ⟨mg30, mg31⟩ := bg3.duo; obtain ⟨mg20, mg21⟩ := bg2.duo; obtain ⟨mg10, mg11⟩ := bg1.duo; clear bg6 lg6 bg5 lg5 bg4 lg4 bg3 lg3 bg2 lg2 bg1 lg1; clear hk))
        | (go_at_call 18; ((with_reducible refine (KRC.out _ _ (hr.step (by go_grown))).mono ?_); rintro e1 w' ⟨rfl, hk⟩; (try clear hX); have hX := hk.2; (try clear mg60 mg61 mg50 mg51 mg40 mg41 mg30 mg31 mg20 mg21 mg10 mg11); obtain ⟨⟨bg6, lg6⟩, ⟨bg5, lg5⟩, ⟨bg4, lg4⟩, ⟨bg3, lg3⟩, ⟨bg2, lg2⟩, ⟨bg1, lg1⟩, -⟩ := hB.below hk.2; obtain ⟨mg60, mg61⟩ := bg6.duo; obtain ⟨mg50, mg51⟩ := bg5.duo; obtain ⟨mg40, mg41⟩ := bg4.duo; obtain ⟨mg30, mg31⟩ := bg3.duo; obtain ⟨mg20, mg21⟩ := bg2.duo; obtain ⟨mg10, mg11⟩ := bg1.duo; clear bg6 lg6 bg5 lg5 bg4 lg4 bg3 lg3 bg2 lg2 bg1 lg1; clear hk))
        | (go_at_call 19; ((with_reducible refine (KG1.out _ _ (hr.step (by go_grown))).mono ?_); rintro e1 w' ⟨rfl, hk⟩; (try clear hX); have hX := hk.2; (try clear mg60 mg61 mg50 mg51 mg40 mg41 mg30 mg31 mg20 mg21 mg10 mg11); obtain ⟨⟨bg6, lg6⟩, ⟨bg5, lg5⟩, ⟨bg4, lg4⟩, ⟨bg3, lg3⟩, ⟨bg2, lg2⟩, ⟨bg1, lg1⟩, -⟩ := hB.below hk.2; obtain ⟨mg60, mg61⟩ := bg6.duo; obtain ⟨mg50, mg51⟩ := bg5.duo; obtain ⟨mg40, mg41⟩ := bg4.duo; obtain ⟨mg30, mg31⟩ := bg3.duo; obtain ⟨mg20, mg21⟩ := bg2.duo; obtain ⟨mg10, mg11⟩ := bg1.duo; clear bg6 lg6 bg5 lg5 bg4 lg4 bg3 lg3 bg2 lg2 bg1 lg1; clear hk))
        | (go_at_call 19; ((with_reducible refine (KG2.out _ _ (hr.step (by go_grown))).mono ?_); rintro e1 w' ⟨rfl, hk⟩; (try clear hX); have hX := hk.2; (try clear mg60 mg61 mg50 mg51 mg40 mg41 mg30 mg31 mg20 mg21 mg10 mg11); obtain ⟨⟨bg6, lg6⟩, ⟨bg5, lg5⟩, ⟨bg4, lg4⟩, ⟨bg3, lg3⟩, ⟨bg2, lg2⟩, ⟨bg1, lg1⟩, -⟩ := hB.below hk.2; obtain ⟨mg60, mg61⟩ := bg6.duo; obtain ⟨mg50, mg51⟩ := bg5.duo; obtain ⟨mg40, mg41⟩ := bg4.duo; obtain ⟨mg30, mg31⟩ := bg3.duo; obtain ⟨mg20, mg21⟩ := bg2.duo; obtain ⟨mg10, mg11⟩ := bg1.duo; clear bg6 lg6 bg5 lg5 bg4 lg4 bg3 lg3 bg2 lg2 bg1 lg1; clear hk)))
    all_goals
      go_wp2_with fail
      go_meet
      exact ⟨rfl, hX⟩
  case rest =>
    obtain ⟨rfl, hX⟩ := hcut
    have ob := oo.step hX
    have hBb := hB.below hX
    clear oo hB hr hX KC KRC KG1 KG2 fg60 fg61 fg50 fg51 fg40 fg41 fg30 fg31 fg20 fg21 fg10 fg11
    have hr := Ok.refl ob.1
    have oo := ob
    have hB := hBb
    clear ob hBb
    obtain ⟨⟨bg6, lg6⟩, ⟨bg5, lg5⟩, ⟨bg4, lg4⟩, ⟨bg3, lg3⟩, ⟨bg2, lg2⟩, ⟨bg1, lg1⟩, -⟩ := id hB
    obtain ⟨fg60, fg61⟩ := bg6.duo
    obtain ⟨fg50, fg51⟩ := bg5.duo
    obtain ⟨fg40, fg41⟩ := bg4.duo
    obtain ⟨fg30, fg31⟩ := bg3.duo
    obtain ⟨fg20, fg21⟩ := bg2.duo
    obtain ⟨fg10, fg11⟩ := bg1.duo
    clear bg6 lg6 bg5 lg5 bg4 lg4 bg3 lg3 bg2 lg2 bg1 lg1
    go_wp2_with (go_at_call 12; ((with_reducible refine (KL.out _ _ hr).mono ?_); rintro e1 w9 ⟨rfl, hk9⟩))
    go_ret
    exact ⟨rfl, oo.step hk9.2⟩
set_option maxRecDepth 100000 in
set_option maxHeartbeats 8000000 in
theorem next_top (d j e a b er p q pe ec : Int) (w W : World) (KL : Hid (∀ B X, Ok B X → Calls Tryd.prog 12 #[] X fun x w' => x = .returned (.bool true) ∧ Ok B w')) (KN : Hid (∀ B X, Ok B X → Calls Tryd.prog 13 #[E2 0 d] X fun x w' => x = .returned (.tuple #[E2 a b, .int .i64 er]) ∧ Ok B w')) (KP : Hid (∀ B X, Ok B X → Calls Tryd.prog 14 #[E2 0 d] X fun x w' => x = .returned (.tuple #[E2 p q, .int .i64 pe]) ∧ Ok B w')) (KRN : Hid (∀ B X, Ok B X → Calls Tryd.prog 15 #[E2 0 d] X fun x w' => x = .returned (.tuple #[E2 a b, .int .i64 er]) ∧ Ok B w')) (KRP : Hid (∀ B X, Ok B X → Calls Tryd.prog 16 #[E2 0 d] X fun x w' => x = .returned (.tuple #[E2 p q, .int .i64 pe]) ∧ Ok B w')) (KC : Hid (∀ B X, Ok B X → Calls Tryd.prog 17 #[E2 0 d] X fun x w' => x = .returned (.int .i64 ec) ∧ Ok B w')) (KRC : Hid (∀ B X, Ok B X → Calls Tryd.prog 18 #[E2 0 d] X fun x w' => x = .returned (.int .i64 ec) ∧ Ok B w')) (KG1 : Hid (∀ B X, Ok B X → Calls Tryd.prog 19 #[E2 a b, .int .i64 er, E2 a b, .int .i64 er] X fun x w' => x = .returned (.bool true) ∧ Ok B w')) (KG2 : Hid (∀ B X, Ok B X → Calls Tryd.prog 19 #[E2 p q, .int .i64 pe, E2 p q, .int .i64 pe] X fun x w' => x = .returned (.bool true) ∧ Ok B w'))
    (hE : ¬ er = 0) (ho : Ok w W) :
    Calls Tryd.prog 4 #[E2 0 d, E2 j e] W fun x w' => x = .returned (.bool true) ∧ Ok w w' := by
  have heE : (ec != ec) = false := by simp
  have hE2 : (er != 0) = true := by rw [bne_iff_ne]; exact hE
  go_enter Tryd.func4, Tryd.ntmps4
  go_upto_region 1 with fail
  have hB := Bs.new (Bs.new (show Bs W [] from trivial) 0 d) j e
  rw [size_al] at hB
  have oo : Ok w ((W.alloc (Obj.cells #[Value.int IntKind.i8 0, Value.int IntKind.i64 d] 24)).alloc (Obj.cells #[Value.int IntKind.i8 j, Value.int IntKind.i64 e] 24)) := ho.step (by go_grown)
  generalize ((W.alloc (Obj.cells #[Value.int IntKind.i8 0, Value.int IntKind.i64 d] 24)).alloc (Obj.cells #[Value.int IntKind.i8 j, Value.int IntKind.i64 e] 24)) = W0 at *
  generalize W.heap.size + 1 = g2 at *
  generalize W.heap.size = g1 at *
  clear ho
  have hr := Ok.refl oo.1
  obtain ⟨⟨bg2, lg2⟩, ⟨bg1, lg1⟩, -⟩ := id hB
  obtain ⟨fg20, fg21⟩ := bg2.duo
  obtain ⟨fg10, fg11⟩ := bg1.duo
  clear bg2 lg2 bg1 lg1
  go_upto_region 2 with (go_at_call 13; ((with_reducible refine (KN.out _ _ hr).mono ?_); rintro e1 w3 ⟨rfl, hk3⟩))
  have hB' := Bs.new (hB.below hk3.2) a b
  have o' := (oo.step hk3.2).step (end_new w3 a b _ rfl).2.2
  clear hB oo hr fg20 fg21 fg10 fg11
  generalize (w3.alloc (Obj.cells #[Value.int IntKind.i8 a, Value.int IntKind.i64 b] 24)) = W3 at *
  generalize w3.heap.size = g3 at *
  clear hk3 KN
  have hB := hB'
  have oo := o'
  clear hB' o'
  have hr := Ok.refl oo.1
  obtain ⟨⟨bg3, lg3⟩, ⟨bg2, lg2⟩, ⟨bg1, lg1⟩, -⟩ := id hB
  obtain ⟨fg30, fg31⟩ := bg3.duo
  obtain ⟨fg20, fg21⟩ := bg2.duo
  obtain ⟨fg10, fg11⟩ := bg1.duo
  clear bg3 lg3 bg2 lg2 bg1 lg1
  go_upto_region 3 with (go_at_call 14; ((with_reducible refine (KP.out _ _ hr).mono ?_); rintro e1 w4 ⟨rfl, hk4⟩))
  have hB' := Bs.new (hB.below hk4.2) p q
  have o' := (oo.step hk4.2).step (end_new w4 p q _ rfl).2.2
  clear hB oo hr fg30 fg31 fg20 fg21 fg10 fg11
  generalize (w4.alloc (Obj.cells #[Value.int IntKind.i8 p, Value.int IntKind.i64 q] 24)) = W4 at *
  generalize w4.heap.size = g4 at *
  clear hk4 KP
  have hB := hB'
  have oo := o'
  clear hB' o'
  have hr := Ok.refl oo.1
  obtain ⟨⟨bg4, lg4⟩, ⟨bg3, lg3⟩, ⟨bg2, lg2⟩, ⟨bg1, lg1⟩, -⟩ := id hB
  obtain ⟨fg40, fg41⟩ := bg4.duo
  obtain ⟨fg30, fg31⟩ := bg3.duo
  obtain ⟨fg20, fg21⟩ := bg2.duo
  obtain ⟨fg10, fg11⟩ := bg1.duo
  clear bg4 lg4 bg3 lg3 bg2 lg2 bg1 lg1
  go_upto_region 4 with (go_at_call 15; ((with_reducible refine (KRN.out _ _ hr).mono ?_); rintro e1 w5 ⟨rfl, hk5⟩))
  have hB' := Bs.new (hB.below hk5.2) a b
  have o' := (oo.step hk5.2).step (end_new w5 a b _ rfl).2.2
  clear hB oo hr fg40 fg41 fg30 fg31 fg20 fg21 fg10 fg11
  generalize (w5.alloc (Obj.cells #[Value.int IntKind.i8 a, Value.int IntKind.i64 b] 24)) = W5 at *
  generalize w5.heap.size = g5 at *
  clear hk5 KRN
  have hB := hB'
  have oo := o'
  clear hB' o'
  have hr := Ok.refl oo.1
  obtain ⟨⟨bg5, lg5⟩, ⟨bg4, lg4⟩, ⟨bg3, lg3⟩, ⟨bg2, lg2⟩, ⟨bg1, lg1⟩, -⟩ := id hB
  obtain ⟨fg50, fg51⟩ := bg5.duo
  obtain ⟨fg40, fg41⟩ := bg4.duo
  obtain ⟨fg30, fg31⟩ := bg3.duo
  obtain ⟨fg20, fg21⟩ := bg2.duo
  obtain ⟨fg10, fg11⟩ := bg1.duo
  clear bg5 lg5 bg4 lg4 bg3 lg3 bg2 lg2 bg1 lg1
  go_upto_region 5 with (go_at_call 16; ((with_reducible refine (KRP.out _ _ hr).mono ?_); rintro e1 w6 ⟨rfl, hk6⟩))
  have hB' := Bs.new (hB.below hk6.2) p q
  have o' := (oo.step hk6.2).step (end_new w6 p q _ rfl).2.2
  clear hB oo hr fg50 fg51 fg40 fg41 fg30 fg31 fg20 fg21 fg10 fg11
  generalize (w6.alloc (Obj.cells #[Value.int IntKind.i8 p, Value.int IntKind.i64 q] 24)) = W6 at *
  generalize w6.heap.size = g6 at *
  clear hk6 KRP
  have hB := hB'
  have oo := o'
  clear hB' o'
  have hr := Ok.refl oo.1
  obtain ⟨⟨bg6, lg6⟩, ⟨bg5, lg5⟩, ⟨bg4, lg4⟩, ⟨bg3, lg3⟩, ⟨bg2, lg2⟩, ⟨bg1, lg1⟩, -⟩ := id hB
  obtain ⟨fg60, fg61⟩ := bg6.duo
  obtain ⟨fg50, fg51⟩ := bg5.duo
  obtain ⟨fg40, fg41⟩ := bg4.duo
  obtain ⟨fg30, fg31⟩ := bg3.duo
  obtain ⟨fg20, fg21⟩ := bg2.duo
  obtain ⟨fg10, fg11⟩ := bg1.duo
  clear bg6 lg6 bg5 lg5 bg4 lg4 bg3 lg3 bg2 lg2 bg1 lg1
  go_cut [55] (fun v wx => v = .bool false ∧ Below W6.heap.size W6 wx)
  case first =>
    have hee := heE
    go_region_held3 (fun x => x.cell? ⟨g6, 0, none⟩ = some (.int .i8 p) ∧ x.cell? ⟨g6, 1, none⟩ = some (.int .i64 q) ∧ x.cell? ⟨g5, 0, none⟩ = some (.int .i8 a) ∧ x.cell? ⟨g5, 1, none⟩ = some (.int .i64 b) ∧ x.cell? ⟨g4, 0, none⟩ = some (.int .i8 p) ∧ x.cell? ⟨g4, 1, none⟩ = some (.int .i64 q) ∧ x.cell? ⟨g3, 0, none⟩ = some (.int .i8 a) ∧ x.cell? ⟨g3, 1, none⟩ = some (.int .i64 b) ∧ x.cell? ⟨g2, 0, none⟩ = some (.int .i8 j) ∧ x.cell? ⟨g2, 1, none⟩ = some (.int .i64 e) ∧ x.cell? ⟨g1, 0, none⟩ = some (.int .i8 0) ∧ x.cell? ⟨g1, 1, none⟩ = some (.int .i64 d)) (go_keep)
      (first
        | (go_at_call 17; ((with_reducible refine (KC.out _ _ (hr.step (by go_grown))).mono ?_); rintro e1 w' ⟨rfl, hk⟩; (try clear hX); have hX := hk.2; (try clear mg60 mg61 mg50 mg51 mg40 mg41 mg30 mg31 mg20 mg21 mg10 mg11); obtain ⟨⟨bg6, lg6⟩, ⟨bg5, lg5⟩, ⟨bg4, lg4⟩, ⟨bg3, lg3⟩, ⟨bg2, lg2⟩, ⟨bg1, lg1⟩, -⟩ := hB.below hk.2; obtain ⟨mg60, mg61⟩ := bg6.duo; obtain ⟨mg50, mg51⟩ := bg5.duo; obtain ⟨mg40, mg41⟩ := bg4.duo; obtain ⟨mg30, mg31⟩ := bg3.duo; obtain ⟨mg20, mg21⟩ := bg2.duo; obtain ⟨mg10, mg11⟩ := bg1.duo; clear bg6 lg6 bg5 lg5 bg4 lg4 bg3 lg3 bg2 lg2 bg1 lg1; clear hk))
        | (go_at_call 18; ((with_reducible refine (KRC.out _ _ (hr.step (by go_grown))).mono ?_); rintro e1 w' ⟨rfl, hk⟩; (try clear hX); have hX := hk.2; (try clear mg60 mg61 mg50 mg51 mg40 mg41 mg30 mg31 mg20 mg21 mg10 mg11); obtain ⟨⟨bg6, lg6⟩, ⟨bg5, lg5⟩, ⟨bg4, lg4⟩, ⟨bg3, lg3⟩, ⟨bg2, lg2⟩, ⟨bg1, lg1⟩, -⟩ := hB.below hk.2; obtain ⟨mg60, mg61⟩ := bg6.duo; obtain ⟨mg50, mg51⟩ := bg5.duo; obtain ⟨mg40, mg41⟩ := bg4.duo; obtain ⟨mg30, mg31⟩ := bg3.duo; obtain ⟨mg20, mg21⟩ := bg2.duo; obtain ⟨mg10, mg11⟩ := bg1.duo; clear bg6 lg6 bg5 lg5 bg4 lg4 bg3 lg3 bg2 lg2 bg1 lg1; clear hk))
        | (go_at_call 19; ((with_reducible refine (KG1.out _ _ (hr.step (by go_grown))).mono ?_); rintro e1 w' ⟨rfl, hk⟩; (try clear hX); have hX := hk.2; (try clear mg60 mg61 mg50 mg51 mg40 mg41 mg30 mg31 mg20 mg21 mg10 mg11); obtain ⟨⟨bg6, lg6⟩, ⟨bg5, lg5⟩, ⟨bg4, lg4⟩, ⟨bg3, lg3⟩, ⟨bg2, lg2⟩, ⟨bg1, lg1⟩, -⟩ := hB.below hk.2; obtain ⟨mg60, mg61⟩ := bg6.duo; obtain ⟨mg50, mg51⟩ := bg5.duo; obtain ⟨mg40, mg41⟩ := bg4.duo; obtain ⟨mg30, mg31⟩ := bg3.duo; obtain ⟨mg20, mg21⟩ := bg2.duo; obtain ⟨mg10, mg11⟩ := bg1.duo; clear bg6 lg6 bg5 lg5 bg4 lg4 bg3 lg3 bg2 lg2 bg1 lg1; clear hk))
        | (go_at_call 19; ((with_reducible refine (KG2.out _ _ (hr.step (by go_grown))).mono ?_); rintro e1 w' ⟨rfl, hk⟩; (try clear hX); have hX := hk.2; (try clear mg60 mg61 mg50 mg51 mg40 mg41 mg30 mg31 mg20 mg21 mg10 mg11); obtain ⟨⟨bg6, lg6⟩, ⟨bg5, lg5⟩, ⟨bg4, lg4⟩, ⟨bg3, lg3⟩, ⟨bg2, lg2⟩, ⟨bg1, lg1⟩, -⟩ := hB.below hk.2; obtain ⟨mg60, mg61⟩ := bg6.duo; obtain ⟨mg50, mg51⟩ := bg5.duo; obtain ⟨mg40, mg41⟩ := bg4.duo; obtain ⟨mg30, mg31⟩ := bg3.duo; obtain ⟨mg20, mg21⟩ := bg2.duo; obtain ⟨mg10, mg11⟩ := bg1.duo; clear bg6 lg6 bg5 lg5 bg4 lg4 bg3 lg3 bg2 lg2 bg1 lg1; clear hk)))
    all_goals
      go_wp2_with fail
      go_meet
      exact ⟨rfl, hX⟩
  case rest =>
    obtain ⟨rfl, hX⟩ := hcut
    have ob := oo.step hX
    have hBb := hB.below hX
    clear oo hB hr hX KC KRC KG1 KG2 fg60 fg61 fg50 fg51 fg40 fg41 fg30 fg31 fg20 fg21 fg10 fg11
    have hr := Ok.refl ob.1
    have oo := ob
    have hB := hBb
    clear ob hBb
    obtain ⟨⟨bg6, lg6⟩, ⟨bg5, lg5⟩, ⟨bg4, lg4⟩, ⟨bg3, lg3⟩, ⟨bg2, lg2⟩, ⟨bg1, lg1⟩, -⟩ := id hB
    obtain ⟨fg60, fg61⟩ := bg6.duo
    obtain ⟨fg50, fg51⟩ := bg5.duo
    obtain ⟨fg40, fg41⟩ := bg4.duo
    obtain ⟨fg30, fg31⟩ := bg3.duo
    obtain ⟨fg20, fg21⟩ := bg2.duo
    obtain ⟨fg10, fg11⟩ := bg1.duo
    clear bg6 lg6 bg5 lg5 bg4 lg4 bg3 lg3 bg2 lg2 bg1 lg1
    go_wp2_with (go_at_call 12; ((with_reducible refine (KL.out _ _ hr).mono ?_); rintro e1 w9 ⟨rfl, hk9⟩))
    go_ret
    exact ⟨rfl, oo.step hk9.2⟩
end Go.Proofs.YtjgaoajbcbpbbaaDoor.end8
