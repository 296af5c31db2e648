/- The law on one run: the walks for a pair of days that is not in order. -/
import Derived.Test.YtmbaohjekeiphaaGreatDoorRunO
namespace Go.Proofs.YtmbaohjekeiphaaGreatDoor.run9
open Go.RowKit

set_option maxRecDepth 100000 in
set_option maxHeartbeats 8000000 in
theorem one_gt_bad (i d j e lo hi m k : Int) (w W : World) (KL : Hid (∀ B X, Ok B X → Calls Tryz.prog 23 #[] X fun x w' => x = .returned (.bool true) ∧ Ok B w')) (KO : Hid (∀ B X, Ok B X → Calls Tryz.prog 26 #[.int .i64 lo, .int .i64 hi] X fun x w' => x = .returned (.tuple #[U4 0 0 0 0, .int .i64 12]) ∧ Ok B w')) (KG5 : Hid (∀ B X, Ok B X → Calls Tryz.prog 27 #[U4 0 0 0 0, .int .i64 12, U4 i d j e, .int .i64 12] X fun x w' => x = .returned (.bool true) ∧ Ok B w')) (KC : Hid (∀ B X, Ok B X → Calls Tryz.prog 7 #[U4 i d j e] X fun x w' => x = .returned (.int .i64 m) ∧ Ok B w')) (KN : Hid (∀ B X, Ok B X → Calls Tryz.prog 24 #[U4 i d j e] X fun x w' => x = .returned (.tuple #[.int .i64 0, .int .i64 m]) ∧ Ok B w')) (KS : Hid (∀ B X, Ok B X → Calls Tryz.prog 25 #[U4 i d j e, .int .i64 k] X fun x w' => x = .returned (.tuple #[U4 0 0 0 0, .int .i64 m]) ∧ Ok B w')) (KG : Hid (∀ B X, Ok B X → Calls Tryz.prog 27 #[U4 0 0 0 0, .int .i64 m, U4 i d j e, .int .i64 m] X fun x w' => x = .returned (.bool true) ∧ Ok B w')) (hm : ¬ m = 0) (hxy : hi < lo) (ho : Ok w W) :
    Calls Tryz.prog 4 #[U4 i d j e, .int .i64 k, .agg #[.int .i64 lo, .int .i64 hi]] W fun e w' => e = .returned (.bool true) ∧ Ok w w' := by
  have hm1 : (m != 0) = true := by rw [bne_iff_ne]; exact hm
  have hm2 : (m == m) = true := by simp
  clear hm
  have hx1 : decide (hi < lo) = true := decide_eq_true hxy
  have hx2 : decide (lo ≤ hi) = false := decide_eq_false (by omega)
  clear hxy
  go_enter Tryz.func4, Tryz.ntmps4
  go_upto_region 1 with fail
  have hB0 := Bs.new (show Bs W [] from trivial) i d j e
  have o0 := ho.step (run_new W i d j e _ rfl).2.2
  have hs0 := (run_new W i d j e _ rfl).2.1
  generalize (W.alloc (Obj.cells #[Value.int IntKind.i8 i, Value.int IntKind.i64 d, Value.int IntKind.i8 j, Value.int IntKind.i64 e] 26)) = W0 at *
  have hB := hB0.below (show Below W0.heap.size W0 (W0.alloc (Obj.cells #[Value.int IntKind.i64 lo, Value.int IntKind.i64 hi] 39)) from by go_grown)
  have oo := o0.step (show Below W0.heap.size W0 (W0.alloc (Obj.cells #[Value.int IntKind.i64 lo, Value.int IntKind.i64 hi] 39)) from by go_grown)
  have hz := ZB.new W0 lo hi
  rw [hs0] at hz
  clear hB0 o0 ho hs0
  generalize (W0.alloc (Obj.cells #[Value.int IntKind.i64 lo, Value.int IntKind.i64 hi] 39)) = W1 at *
  generalize W.heap.size + 1 = gz at *
  generalize W.heap.size = g1 at *
  have oc := Ok.refl oo.1
  obtain ⟨⟨bg1, lg1⟩, -⟩ := id hB
  obtain ⟨fg10, fg11, fg12, fg13⟩ := bg1.quad
  clear bg1 lg1
  obtain ⟨fz0, fz1⟩ := hz.two
  go_upto_region 4 with (first
        | (go_at_call 7; ((with_reducible refine (KC.out _ _ oc).mono ?_); rintro e1 w' ⟨rfl, hk⟩; (try clear oc); have oc := hk; (try clear mg10 mg11 mg12 mg13); obtain ⟨⟨bg1, lg1⟩, -⟩ := hB.below hk.2; obtain ⟨mg10, mg11, mg12, mg13⟩ := bg1.quad; clear bg1 lg1; (try clear mz0 mz1); obtain ⟨mz0, mz1⟩ := (hz.below hk.2).two; clear hk))
        | (go_at_call 24; ((with_reducible refine (KN.out _ _ oc).mono ?_); rintro e1 w' ⟨rfl, hk⟩; (try clear oc); have oc := hk; (try clear mg10 mg11 mg12 mg13); obtain ⟨⟨bg1, lg1⟩, -⟩ := hB.below hk.2; obtain ⟨mg10, mg11, mg12, mg13⟩ := bg1.quad; clear bg1 lg1; (try clear mz0 mz1); obtain ⟨mz0, mz1⟩ := (hz.below hk.2).two; clear hk))
        | (go_at_call 25; ((with_reducible refine (KS.out _ _ oc).mono ?_); rintro e1 w' ⟨rfl, hk⟩; (try clear oc); have oc := hk; (try clear mg10 mg11 mg12 mg13); obtain ⟨⟨bg1, lg1⟩, -⟩ := hB.below hk.2; obtain ⟨mg10, mg11, mg12, mg13⟩ := bg1.quad; clear bg1 lg1; (try clear mz0 mz1); obtain ⟨mz0, mz1⟩ := (hz.below hk.2).two; clear hk)))
  have hz' := (hz.below oc.2).below (run_new w' 0 0 0 0 _ rfl).2.2
  clear hz
  (try clear mz0 mz1 fz0 fz1)
  have hB' := Bs.new (hB.below oc.2) 0 0 0 0
  have o' := (oo.step oc.2).step (run_new w' 0 0 0 0 _ rfl).2.2
  clear hB oo oc fg10 fg11 fg12 fg13 KC KN
  (try clear mg10 mg11 mg12 mg13)
  generalize (w'.alloc (Obj.cells #[Value.int IntKind.i8 0, Value.int IntKind.i64 0, Value.int IntKind.i8 0, Value.int IntKind.i64 0] 26)) = W2 at *
  generalize w'.heap.size = g2 at *
  have hB := hB'
  have oo := o'
  clear hB' o'
  have oc := Ok.refl oo.1
  obtain ⟨⟨bg2, lg2⟩, ⟨bg1, lg1⟩, -⟩ := id hB
  obtain ⟨fg20, fg21, fg22, fg23⟩ := bg2.quad
  obtain ⟨fg10, fg11, fg12, fg13⟩ := bg1.quad
  clear bg2 lg2 bg1 lg1
  have hz := hz'
  clear hz'
  obtain ⟨fz0, fz1⟩ := hz.two
  go_upto_region 5 with (go_at_call 26; ((with_reducible refine (KO.out _ _ oc).mono ?_); rintro e1 w' ⟨rfl, hk⟩; (try clear oc); have oc := hk; (try clear mg20 mg21 mg22 mg23 mg10 mg11 mg12 mg13); obtain ⟨⟨bg2, lg2⟩, ⟨bg1, lg1⟩, -⟩ := hB.below hk.2; obtain ⟨mg20, mg21, mg22, mg23⟩ := bg2.quad; obtain ⟨mg10, mg11, mg12, mg13⟩ := bg1.quad; clear bg2 lg2 bg1 lg1; (try clear mz0 mz1); obtain ⟨mz0, mz1⟩ := (hz.below hk.2).two; clear hk))
  have hz' := (hz.below oc.2).below (run_new w' 0 0 0 0 _ rfl).2.2
  clear hz
  (try clear mz0 mz1 fz0 fz1)
  have hB' := Bs.new (hB.below oc.2) 0 0 0 0
  have o' := (oo.step oc.2).step (run_new w' 0 0 0 0 _ rfl).2.2
  clear hB oo oc fg20 fg21 fg22 fg23 fg10 fg11 fg12 fg13 KO
  (try clear mg20 mg21 mg22 mg23 mg10 mg11 mg12 mg13)
  generalize (w'.alloc (Obj.cells #[Value.int IntKind.i8 0, Value.int IntKind.i64 0, Value.int IntKind.i8 0, Value.int IntKind.i64 0] 26)) = W3 at *
  generalize w'.heap.size = g3 at *
  have hB := hB'
  have oo := o'
  clear hB' o'
  have oc := Ok.refl oo.1
  obtain ⟨⟨bg3, lg3⟩, ⟨bg2, lg2⟩, ⟨bg1, lg1⟩, -⟩ := id hB
  obtain ⟨fg30, fg31, fg32, fg33⟩ := bg3.quad
  obtain ⟨fg20, fg21, fg22, fg23⟩ := bg2.quad
  obtain ⟨fg10, fg11, fg12, fg13⟩ := bg1.quad
  clear bg3 lg3 bg2 lg2 bg1 lg1
  have hz := hz'
  clear hz'
  obtain ⟨fz0, fz1⟩ := hz.two
  refine wp_region_held_drew (S := (fun x => x.cell? ⟨g3, 0, none⟩ = some (.int .i8 0) ∧ x.cell? ⟨g3, 1, none⟩ = some (.int .i64 0) ∧ x.cell? ⟨g3, 2, none⟩ = some (.int .i8 0) ∧ x.cell? ⟨g3, 3, none⟩ = some (.int .i64 0) ∧ x.cell? ⟨g2, 0, none⟩ = some (.int .i8 0) ∧ x.cell? ⟨g2, 1, none⟩ = some (.int .i64 0) ∧ x.cell? ⟨g2, 2, none⟩ = some (.int .i8 0) ∧ x.cell? ⟨g2, 3, none⟩ = some (.int .i64 0) ∧ x.cell? ⟨g1, 0, none⟩ = some (.int .i8 i) ∧ x.cell? ⟨g1, 1, none⟩ = some (.int .i64 d) ∧ x.cell? ⟨g1, 2, none⟩ = some (.int .i8 j) ∧ x.cell? ⟨g1, 3, none⟩ = some (.int .i64 e) ∧ x.cell? ⟨gz, 0, none⟩ = some (.int .i64 lo) ∧ x.cell? ⟨gz, 1, none⟩ = some (.int .i64 hi))) (by kernel_rfl) ?_ (fun hHeld => ?_)
  · (try dsimp only)
    go_keep
  refine wpAnyH_take (i := 0) (oi := ?oi0x) (v := ?v0x) ?hi0x (by kernel_rfl) (by kernel_rfl) (by kernel_rfl) ?hQ0x ?hy0x (by assumption) ?rest0x
  case hi0x => (simp only [List.getElem?_toArray, List.getElem?_cons_zero]; rfl)
  case hQ0x => exact fun _ _ _ h => h
  case hy0x => exact Or.inl ⟨by rfl, by (intro w hSw; (try dsimp only at hSw); go_simp; try with_reducible rfl)⟩
  (try simp only [Act.put, List.setIfInBounds_toArray, List.set_cons_zero, List.set_cons_succ])
  refine wpAnyH_take (i := 1) (oi := ?oi1x) (v := ?v1x) ?hi1x (by kernel_rfl) (by kernel_rfl) (by kernel_rfl) ?hQ1x ?hy1x (by assumption) ?rest1x
  case hi1x => (simp only [List.getElem?_toArray, List.getElem?_cons_succ, List.getElem?_cons_zero]; rfl)
  case hQ1x => exact fun _ _ _ h => h
  case hy1x => exact Or.inl ⟨by rfl, by (intro w hSw; (try dsimp only at hSw); go_simp; try with_reducible rfl)⟩
  (try simp only [Act.put, List.setIfInBounds_toArray, List.set_cons_zero, List.set_cons_succ])
  refine wpAnyH_take (i := 2) (oi := ?oi2x) (v := ?v2x) ?hi2x (by kernel_rfl) (by kernel_rfl) (by kernel_rfl) ?hQ2x ?hy2x (by assumption) ?rest2x
  case hi2x => (simp only [List.getElem?_toArray, List.getElem?_cons_succ, List.getElem?_cons_zero]; rfl)
  case hQ2x => exact fun _ _ _ h => h
  case hy2x => exact Or.inl ⟨by rfl, by (intro w hSw; (try dsimp only at hSw); go_simp; try with_reducible rfl)⟩
  (try simp only [Act.put, List.setIfInBounds_toArray, List.set_cons_zero, List.set_cons_succ])
  refine wpAnyH_take (i := 3) (oi := ?oi3x) (v := ?v3x) ?hi3x (by kernel_rfl) (by kernel_rfl) (by kernel_rfl) ?hQ3x ?hy3x (by assumption) ?rest3x
  case hi3x => (simp only [List.getElem?_toArray, List.getElem?_cons_succ, List.getElem?_cons_zero]; rfl)
  case hQ3x => exact fun _ _ _ h => h
  case hy3x => exact Or.inl ⟨by rfl, by (intro w hSw; (try dsimp only at hSw); go_simp; try with_reducible rfl)⟩
  (try simp only [Act.put, List.setIfInBounds_toArray, List.set_cons_zero, List.set_cons_succ])
  refine wpAnyH_take (i := 4) (oi := ?oi4x) (v := ?v4x) ?hi4x (by kernel_rfl) (by kernel_rfl) (by kernel_rfl) ?hQ4x ?hy4x (by assumption) ?rest4x
  case hi4x => (simp only [List.getElem?_toArray, List.getElem?_cons_succ, List.getElem?_cons_zero]; rfl)
  case hQ4x => exact fun _ _ _ h => h
  case hy4x => exact Or.inl ⟨by rfl, by (intro w hSw; (try dsimp only at hSw); go_simp; try with_reducible rfl)⟩
  (try simp only [Act.put, List.setIfInBounds_toArray, List.set_cons_zero, List.set_cons_succ])
  refine wpAnyH_take (i := 5) (oi := ?oi5x) (v := ?v5x) ?hi5x (by kernel_rfl) (by kernel_rfl) (by kernel_rfl) ?hQ5x ?hy5x (by assumption) ?rest5x
  case hi5x => (simp only [List.getElem?_toArray, List.getElem?_cons_succ, List.getElem?_cons_zero]; rfl)
  case hQ5x => exact fun _ _ _ h => h
  case hy5x => exact Or.inl ⟨by rfl, by (intro w hSw; (try dsimp only at hSw); go_simp; try with_reducible rfl)⟩
  (try simp only [Act.put, List.setIfInBounds_toArray, List.set_cons_zero, List.set_cons_succ])
  refine wpAnyH_take (i := 6) (oi := ?oi6x) (v := ?v6x) ?hi6x (by kernel_rfl) (by kernel_rfl) (by kernel_rfl) ?hQ6x ?hy6x (by assumption) ?rest6x
  case hi6x => (simp only [List.getElem?_toArray, List.getElem?_cons_succ, List.getElem?_cons_zero]; rfl)
  case hQ6x => exact fun _ _ _ h => h
  case hy6x => exact Or.inl ⟨by rfl, by (intro w hSw; (try dsimp only at hSw); go_simp; try with_reducible rfl)⟩
  (try simp only [Act.put, List.setIfInBounds_toArray, List.set_cons_zero, List.set_cons_succ])
  refine wpAnyH_take (i := 7) (oi := ?oi7x) (v := ?v7x) ?hi7x (by kernel_rfl) (by kernel_rfl) (by kernel_rfl) ?hQ7x ?hy7x (by assumption) ?rest7x
  case hi7x => (simp only [List.getElem?_toArray, List.getElem?_cons_succ, List.getElem?_cons_zero]; rfl)
  case hQ7x => exact fun _ _ _ h => h
  case hy7x => exact Or.inl ⟨by rfl, by (intro w hSw; (try dsimp only at hSw); go_simp; try with_reducible rfl)⟩
  (try simp only [Act.put, List.setIfInBounds_toArray, List.set_cons_zero, List.set_cons_succ])
  refine wpAnyH_take (i := 8) (oi := ?oi8x) (v := ?v8x) ?hi8x (by kernel_rfl) (by kernel_rfl) (by kernel_rfl) ?hQ8x ?hy8x (by assumption) ?rest8x
  case hi8x => (simp only [List.getElem?_toArray, List.getElem?_cons_succ, List.getElem?_cons_zero]; rfl)
  case hQ8x => exact fun _ _ _ h => h
  case hy8x => exact Or.inl ⟨by rfl, by (intro w hSw; (try dsimp only at hSw); go_simp; try with_reducible rfl)⟩
  (try simp only [Act.put, List.setIfInBounds_toArray, List.set_cons_zero, List.set_cons_succ])
  refine wpAnyH_ready (rs := [9]) (by kernel_rfl) (by simp) ?_
  refine AllReadyH.cons (o := ?oi9x) ?ho9x ?hK9x AllReadyH.nil
  case ho9x => (simp only [List.getElem?_toArray, List.getElem?_cons_succ, List.getElem?_cons_zero]; rfl)
  intro KK hKK
  go_simp
  (first
      | (go_at_call 27; ((with_reducible refine (KG5.out _ _ (oc.step (by go_grown))).mono ?_); rintro e1 w' ⟨rfl, hk⟩; (try clear oc); have oc := hk; (try clear mg30 mg31 mg32 mg33 mg20 mg21 mg22 mg23 mg10 mg11 mg12 mg13); obtain ⟨⟨bg3, lg3⟩, ⟨bg2, lg2⟩, ⟨bg1, lg1⟩, -⟩ := hB.below hk.2; obtain ⟨mg30, mg31, mg32, mg33⟩ := bg3.quad; obtain ⟨mg20, mg21, mg22, mg23⟩ := bg2.quad; obtain ⟨mg10, mg11, mg12, mg13⟩ := bg1.quad; clear bg3 lg3 bg2 lg2 bg1 lg1; (try clear mz0 mz1); obtain ⟨mz0, mz1⟩ := (hz.below hk.2).two; clear hk))
      | (go_at_call 28; ((with_reducible refine (KD.out _ _ (oc.step (by go_grown))).mono ?_); rintro e1 w' ⟨rfl, hk⟩; (try clear oc); have oc := hk; (try clear mg30 mg31 mg32 mg33 mg20 mg21 mg22 mg23 mg10 mg11 mg12 mg13); obtain ⟨⟨bg3, lg3⟩, ⟨bg2, lg2⟩, ⟨bg1, lg1⟩, -⟩ := hB.below hk.2; obtain ⟨mg30, mg31, mg32, mg33⟩ := bg3.quad; obtain ⟨mg20, mg21, mg22, mg23⟩ := bg2.quad; obtain ⟨mg10, mg11, mg12, mg13⟩ := bg1.quad; clear bg3 lg3 bg2 lg2 bg1 lg1; (try clear mz0 mz1); obtain ⟨mz0, mz1⟩ := (hz.below hk.2).two; clear hk)))
  (try go_wp2_with fail)
  refine hKK.out _ _ ?_ (fun hHeld => ?_)
  · (try dsimp only)
    go_keep
  clear hKK KK
  (try simp only [Act.put, List.setIfInBounds_toArray, List.set_cons_zero, List.set_cons_succ])
  refine wpAnyH_take (i := 10) (oi := ?oi10x) (v := ?v10x) ?hi10x (by kernel_rfl) (by kernel_rfl) (by kernel_rfl) ?hQ10x ?hy10x (by assumption) ?rest10x
  case hi10x => (simp only [List.getElem?_toArray, List.getElem?_cons_succ, List.getElem?_cons_zero]; rfl)
  case hQ10x => exact fun _ _ _ h => h
  case hy10x => exact Or.inl ⟨by rfl, by (intro w hSw; (try dsimp only at hSw); go_simp; try with_reducible rfl)⟩
  (try simp only [Act.put, List.setIfInBounds_toArray, List.set_cons_zero, List.set_cons_succ])
  refine wpAnyH_take (i := 11) (oi := ?oi11x) (v := ?v11x) ?hi11x (by kernel_rfl) (by kernel_rfl) (by kernel_rfl) ?hQ11x ?hy11x (by assumption) ?rest11x
  case hi11x => (simp only [List.getElem?_toArray, List.getElem?_cons_succ, List.getElem?_cons_zero]; rfl)
  case hQ11x => exact fun _ _ _ h => h
  case hy11x => exact Or.inl ⟨by rfl, by (intro w hSw; (try dsimp only at hSw); go_simp; try with_reducible rfl)⟩
  (try simp only [Act.put, List.setIfInBounds_toArray, List.set_cons_zero, List.set_cons_succ])
  refine wpAnyH_take (i := 12) (oi := ?oi12x) (v := ?v12x) ?hi12x (by kernel_rfl) (by kernel_rfl) (by kernel_rfl) ?hQ12x ?hy12x (by assumption) ?rest12x
  case hi12x => (simp only [List.getElem?_toArray, List.getElem?_cons_succ, List.getElem?_cons_zero]; rfl)
  case hQ12x => exact fun _ _ _ h => h
  case hy12x => exact Or.inl ⟨by rfl, by (intro w hSw; (try dsimp only at hSw); go_simp; try with_reducible rfl)⟩
  (try simp only [Act.put, List.setIfInBounds_toArray, List.set_cons_zero, List.set_cons_succ])
  refine wpAnyH_take (i := 13) (oi := ?oi13x) (v := ?v13x) ?hi13x (by kernel_rfl) (by kernel_rfl) (by kernel_rfl) ?hQ13x ?hy13x (by assumption) ?rest13x
  case hi13x => (simp only [List.getElem?_toArray, List.getElem?_cons_succ, List.getElem?_cons_zero]; rfl)
  case hQ13x => exact fun _ _ _ h => h
  case hy13x => exact Or.inl ⟨by rfl, by (intro w hSw; (try dsimp only at hSw); go_simp; try with_reducible rfl)⟩
  (try simp only [Act.put, List.setIfInBounds_toArray, List.set_cons_zero, List.set_cons_succ])
  refine wpAnyH_take (i := 14) (oi := ?oi14x) (v := ?v14x) ?hi14x (by kernel_rfl) (by kernel_rfl) (by kernel_rfl) ?hQ14x ?hy14x (by assumption) ?rest14x
  case hi14x => (simp only [List.getElem?_toArray, List.getElem?_cons_succ, List.getElem?_cons_zero]; rfl)
  case hQ14x => exact fun _ _ _ h => h
  case hy14x => exact Or.inl ⟨by rfl, by (intro w hSw; (try dsimp only at hSw); go_simp; try with_reducible rfl)⟩
  (try simp only [Act.put, List.setIfInBounds_toArray, List.set_cons_zero, List.set_cons_succ])
  refine wpAnyH_take (i := 15) (oi := ?oi15x) (v := ?v15x) ?hi15x (by kernel_rfl) (by kernel_rfl) (by kernel_rfl) ?hQ15x ?hy15x (by assumption) ?rest15x
  case hi15x => (simp only [List.getElem?_toArray, List.getElem?_cons_succ, List.getElem?_cons_zero]; rfl)
  case hQ15x => exact fun _ _ _ h => h
  case hy15x => exact Or.inl ⟨by rfl, by (intro w hSw; (try dsimp only at hSw); go_simp; try with_reducible rfl)⟩
  (try simp only [Act.put, List.setIfInBounds_toArray, List.set_cons_zero, List.set_cons_succ])
  refine wpAnyH_take (i := 16) (oi := ?oi16x) (v := ?v16x) ?hi16x (by kernel_rfl) (by kernel_rfl) (by kernel_rfl) ?hQ16x ?hy16x (by assumption) ?rest16x
  case hi16x => (simp only [List.getElem?_toArray, List.getElem?_cons_succ, List.getElem?_cons_zero]; rfl)
  case hQ16x => exact fun _ _ _ h => h
  case hy16x => exact Or.inl ⟨by rfl, by (intro w hSw; (try dsimp only at hSw); go_simp; try with_reducible rfl)⟩
  (try simp only [Act.put, List.setIfInBounds_toArray, List.set_cons_zero, List.set_cons_succ])
  refine wpAnyH_take (i := 17) (oi := ?oi17x) (v := ?v17x) ?hi17x (by kernel_rfl) (by kernel_rfl) (by kernel_rfl) ?hQ17x ?hy17x (by assumption) ?rest17x
  case hi17x => (simp only [List.getElem?_toArray, List.getElem?_cons_succ, List.getElem?_cons_zero]; rfl)
  case hQ17x => exact fun _ _ _ h => h
  case hy17x => exact Or.inl ⟨by rfl, by (intro w hSw; (try dsimp only at hSw); go_simp; try with_reducible rfl)⟩
  (try simp only [Act.put, List.setIfInBounds_toArray, List.set_cons_zero, List.set_cons_succ])
  refine wpAnyH_take (i := 18) (oi := ?oi18x) (v := ?v18x) ?hi18x (by kernel_rfl) (by kernel_rfl) (by kernel_rfl) ?hQ18x ?hy18x (by assumption) ?rest18x
  case hi18x => (simp only [List.getElem?_toArray, List.getElem?_cons_succ, List.getElem?_cons_zero]; rfl)
  case hQ18x => exact fun _ _ _ h => h
  case hy18x => exact Or.inl ⟨by rfl, by (intro w hSw; (try dsimp only at hSw); go_simp; try with_reducible rfl)⟩
  (try simp only [Act.put, List.setIfInBounds_toArray, List.set_cons_zero, List.set_cons_succ])
  refine wpAnyH_take (i := 19) (oi := ?oi19x) (v := undef) ?hi19x (by kernel_rfl) (by kernel_rfl) (by kernel_rfl) ?hQ19x ?hy19x (by assumption) ?rest19x
  case hi19x => (simp only [List.getElem?_toArray, List.getElem?_cons_succ, List.getElem?_cons_zero]; rfl)
  case hQ19x => exact fun _ _ _ h => h
  case hy19x => exact Or.inr ⟨by rfl, rfl⟩
  (try simp only [Act.put, List.setIfInBounds_toArray, List.set_cons_zero, List.set_cons_succ])
  refine wpAnyH_take (i := 20) (oi := ?oi20x) (v := undef) ?hi20x (by kernel_rfl) (by kernel_rfl) (by kernel_rfl) ?hQ20x ?hy20x (by assumption) ?rest20x
  case hi20x => (simp only [List.getElem?_toArray, List.getElem?_cons_succ, List.getElem?_cons_zero]; rfl)
  case hQ20x => exact fun _ _ _ h => h
  case hy20x => exact Or.inr ⟨by rfl, rfl⟩
  (try simp only [Act.put, List.setIfInBounds_toArray, List.set_cons_zero, List.set_cons_succ])
  refine wpAnyH_take (i := 21) (oi := ?oi21x) (v := undef) ?hi21x (by kernel_rfl) (by kernel_rfl) (by kernel_rfl) ?hQ21x ?hy21x (by assumption) ?rest21x
  case hi21x => (simp only [List.getElem?_toArray, List.getElem?_cons_succ, List.getElem?_cons_zero]; rfl)
  case hQ21x => exact fun _ _ _ h => h
  case hy21x => exact Or.inr ⟨by rfl, rfl⟩
  (try simp only [Act.put, List.setIfInBounds_toArray, List.set_cons_zero, List.set_cons_succ])
  refine wpAnyH_take (i := 22) (oi := ?oi22x) (v := undef) ?hi22x (by kernel_rfl) (by kernel_rfl) (by kernel_rfl) ?hQ22x ?hy22x (by assumption) ?rest22x
  case hi22x => (simp only [List.getElem?_toArray, List.getElem?_cons_succ, List.getElem?_cons_zero]; rfl)
  case hQ22x => exact fun _ _ _ h => h
  case hy22x => exact Or.inr ⟨by rfl, rfl⟩
  (try simp only [Act.put, List.setIfInBounds_toArray, List.set_cons_zero, List.set_cons_succ])
  refine wpAnyH_take (i := 23) (oi := ?oi23x) (v := undef) ?hi23x (by kernel_rfl) (by kernel_rfl) (by kernel_rfl) ?hQ23x ?hy23x (by assumption) ?rest23x
  case hi23x => (simp only [List.getElem?_toArray, List.getElem?_cons_succ, List.getElem?_cons_zero]; rfl)
  case hQ23x => exact fun _ _ _ h => h
  case hy23x => exact Or.inr ⟨by rfl, rfl⟩
  (try simp only [Act.put, List.setIfInBounds_toArray, List.set_cons_zero, List.set_cons_succ])
  refine wpAnyH_take (i := 24) (oi := ?oi24x) (v := undef) ?hi24x (by kernel_rfl) (by kernel_rfl) (by kernel_rfl) ?hQ24x ?hy24x (by assumption) ?rest24x
  case hi24x => (simp only [List.getElem?_toArray, List.getElem?_cons_succ, List.getElem?_cons_zero]; rfl)
  case hQ24x => exact fun _ _ _ h => h
  case hy24x => exact Or.inr ⟨by rfl, rfl⟩
  (try simp only [Act.put, List.setIfInBounds_toArray, List.set_cons_zero, List.set_cons_succ])
  refine wpAnyH_ready (rs := [25]) (by kernel_rfl) (by simp) ?_
  refine AllReadyH.cons (o := ?oi25x) ?ho25x ?hK25x AllReadyH.nil
  case ho25x => (simp only [List.getElem?_toArray, List.getElem?_cons_succ, List.getElem?_cons_zero]; rfl)
  intro KK hKK
  go_simp
  refine hKK.out _ _ (by assumption) (fun _ => ?_)
  clear hKK KK
  (try simp only [Act.put, List.setIfInBounds_toArray, List.set_cons_zero, List.set_cons_succ])
  refine wpAnyH_ready (rs := [26]) (by kernel_rfl) (by simp) ?_
  refine AllReadyH.cons (o := ?oi26x) ?ho26x ?hK26x AllReadyH.nil
  case ho26x => (simp only [List.getElem?_toArray, List.getElem?_cons_succ, List.getElem?_cons_zero]; rfl)
  intro KK hKK
  go_simp
  refine hKK.out _ _ (by assumption) (fun _ => ?_)
  clear hKK KK
  (try simp only [Act.put, List.setIfInBounds_toArray, List.set_cons_zero, List.set_cons_succ])
  refine wpAnyH_take (i := 27) (oi := ?oi27x) (v := undef) ?hi27x (by kernel_rfl) (by kernel_rfl) (by kernel_rfl) ?hQ27x ?hy27x (by assumption) ?rest27x
  case hi27x => (simp only [List.getElem?_toArray, List.getElem?_cons_succ, List.getElem?_cons_zero]; rfl)
  case hQ27x => exact fun _ _ _ h => h
  case hy27x => exact Or.inr ⟨by rfl, rfl⟩
  (try simp only [Act.put, List.setIfInBounds_toArray, List.set_cons_zero, List.set_cons_succ])
  refine wpAnyH_take (i := 28) (oi := ?oi28x) (v := ?v28x) ?hi28x (by kernel_rfl) (by kernel_rfl) (by kernel_rfl) ?hQ28x ?hy28x (by assumption) ?rest28x
  case hi28x => (simp only [List.getElem?_toArray, List.getElem?_cons_succ, List.getElem?_cons_zero]; rfl)
  case hQ28x => exact fun _ _ _ h => h
  case hy28x => exact Or.inl ⟨by rfl, by (intro w hSw; (try dsimp only at hSw); go_simp; try with_reducible rfl)⟩
  (try simp only [Act.put, List.setIfInBounds_toArray, List.set_cons_zero, List.set_cons_succ])
  refine wpAnyH_take (i := 29) (oi := ?oi29x) (v := ?v29x) ?hi29x (by kernel_rfl) (by kernel_rfl) (by kernel_rfl) ?hQ29x ?hy29x (by assumption) ?rest29x
  case hi29x => (simp only [List.getElem?_toArray, List.getElem?_cons_succ, List.getElem?_cons_zero]; rfl)
  case hQ29x => exact fun _ _ _ h => h
  case hy29x => exact Or.inl ⟨by rfl, by (intro w hSw; (try dsimp only at hSw); go_simp; try with_reducible rfl)⟩
  (try simp only [Act.put, List.setIfInBounds_toArray, List.set_cons_zero, List.set_cons_succ])
  refine wpAnyH_done (by kernel_rfl) ?_ _
  go_wp2_with (first
        | (go_at_call 27; ((with_reducible refine (KG.out _ _ oc).mono ?_); rintro e1 w' ⟨rfl, hk⟩; (try clear oc); have oc := hk; (try clear mg30 mg31 mg32 mg33 mg20 mg21 mg22 mg23 mg10 mg11 mg12 mg13); obtain ⟨⟨bg3, lg3⟩, ⟨bg2, lg2⟩, ⟨bg1, lg1⟩, -⟩ := hB.below hk.2; obtain ⟨mg30, mg31, mg32, mg33⟩ := bg3.quad; obtain ⟨mg20, mg21, mg22, mg23⟩ := bg2.quad; obtain ⟨mg10, mg11, mg12, mg13⟩ := bg1.quad; clear bg3 lg3 bg2 lg2 bg1 lg1; (try clear mz0 mz1); obtain ⟨mz0, mz1⟩ := (hz.below hk.2).two; clear hk))
        | (go_at_call 23; ((with_reducible refine (KL.out _ _ oc).mono ?_); rintro e1 w' ⟨rfl, hk⟩; (try clear oc); have oc := hk; clear hk)))
  go_ret
  exact ⟨rfl, oo.step oc.2⟩

set_option maxRecDepth 100000 in
set_option maxHeartbeats 8000000 in
theorem one_gt_none (i d j e lo hi m n p s0 s1 s2 s3 k : Int) (w W : World) (KL : Hid (∀ B X, Ok B X → Calls Tryz.prog 23 #[] X fun x w' => x = .returned (.bool true) ∧ Ok B w')) (KO : Hid (∀ B X, Ok B X → Calls Tryz.prog 26 #[.int .i64 lo, .int .i64 hi] X fun x w' => x = .returned (.tuple #[U4 0 0 0 0, .int .i64 12]) ∧ Ok B w')) (KG5 : Hid (∀ B X, Ok B X → Calls Tryz.prog 27 #[U4 0 0 0 0, .int .i64 12, U4 i d j e, .int .i64 12] X fun x w' => x = .returned (.bool true) ∧ Ok B w')) (KC : Hid (∀ B X, Ok B X → Calls Tryz.prog 7 #[U4 i d j e] X fun x w' => x = .returned (.int .i64 0) ∧ Ok B w')) (KN : Hid (∀ B X, Ok B X → Calls Tryz.prog 24 #[U4 i d j e] X fun x w' => x = .returned (.tuple #[.int .i64 m, .int .i64 n]) ∧ Ok B w')) (KS : Hid (∀ B X, Ok B X → Calls Tryz.prog 25 #[U4 i d j e, .int .i64 k] X fun x w' => x = .returned (.tuple #[U4 s0 s1 s2 s3, .int .i64 p]) ∧ Ok B w')) (KRN : Hid (∀ B X, Ok B X → Calls Tryz.prog 29 #[U4 i d j e] X fun x w' => x = .returned (.tuple #[.int .i64 m, .int .i64 n]) ∧ Ok B w')) (KRS : Hid (∀ B X, Ok B X → Calls Tryz.prog 30 #[U4 i d j e, .int .i64 k] X fun x w' => x = .returned (.tuple #[U4 s0 s1 s2 s3, .int .i64 p]) ∧ Ok B w')) (KG : Hid (∀ B X, Ok B X → Calls Tryz.prog 27 #[U4 s0 s1 s2 s3, .int .i64 p, U4 s0 s1 s2 s3, .int .i64 p] X fun x w' => x = .returned (.bool true) ∧ Ok B w')) (hp : (p != 0) = true) (hxy : hi < lo) (ho : Ok w W) :
    Calls Tryz.prog 4 #[U4 i d j e, .int .i64 k, .agg #[.int .i64 lo, .int .i64 hi]] W fun e w' => e = .returned (.bool true) ∧ Ok w w' := by
  have hm1 : (m != m) = false := by simp
  have hm2 : (n != n) = false := by simp
  have hx1 : decide (hi < lo) = true := decide_eq_true hxy
  have hx2 : decide (lo ≤ hi) = false := decide_eq_false (by omega)
  clear hxy
  go_enter Tryz.func4, Tryz.ntmps4
  go_upto_region 1 with fail
  have hB0 := Bs.new (show Bs W [] from trivial) i d j e
  have o0 := ho.step (run_new W i d j e _ rfl).2.2
  have hs0 := (run_new W i d j e _ rfl).2.1
  generalize (W.alloc (Obj.cells #[Value.int IntKind.i8 i, Value.int IntKind.i64 d, Value.int IntKind.i8 j, Value.int IntKind.i64 e] 26)) = W0 at *
  have hB := hB0.below (show Below W0.heap.size W0 (W0.alloc (Obj.cells #[Value.int IntKind.i64 lo, Value.int IntKind.i64 hi] 39)) from by go_grown)
  have oo := o0.step (show Below W0.heap.size W0 (W0.alloc (Obj.cells #[Value.int IntKind.i64 lo, Value.int IntKind.i64 hi] 39)) from by go_grown)
  have hz := ZB.new W0 lo hi
  rw [hs0] at hz
  clear hB0 o0 ho hs0
  generalize (W0.alloc (Obj.cells #[Value.int IntKind.i64 lo, Value.int IntKind.i64 hi] 39)) = W1 at *
  generalize W.heap.size + 1 = gz at *
  generalize W.heap.size = g1 at *
  have oc := Ok.refl oo.1
  obtain ⟨⟨bg1, lg1⟩, -⟩ := id hB
  obtain ⟨fg10, fg11, fg12, fg13⟩ := bg1.quad
  clear bg1 lg1
  obtain ⟨fz0, fz1⟩ := hz.two
  go_upto_region 4 with (first
        | (go_at_call 7; ((with_reducible refine (KC.out _ _ oc).mono ?_); rintro e1 w' ⟨rfl, hk⟩; (try clear oc); have oc := hk; (try clear mg10 mg11 mg12 mg13); obtain ⟨⟨bg1, lg1⟩, -⟩ := hB.below hk.2; obtain ⟨mg10, mg11, mg12, mg13⟩ := bg1.quad; clear bg1 lg1; (try clear mz0 mz1); obtain ⟨mz0, mz1⟩ := (hz.below hk.2).two; clear hk))
        | (go_at_call 24; ((with_reducible refine (KN.out _ _ oc).mono ?_); rintro e1 w' ⟨rfl, hk⟩; (try clear oc); have oc := hk; (try clear mg10 mg11 mg12 mg13); obtain ⟨⟨bg1, lg1⟩, -⟩ := hB.below hk.2; obtain ⟨mg10, mg11, mg12, mg13⟩ := bg1.quad; clear bg1 lg1; (try clear mz0 mz1); obtain ⟨mz0, mz1⟩ := (hz.below hk.2).two; clear hk))
        | (go_at_call 25; ((with_reducible refine (KS.out _ _ oc).mono ?_); rintro e1 w' ⟨rfl, hk⟩; (try clear oc); have oc := hk; (try clear mg10 mg11 mg12 mg13); obtain ⟨⟨bg1, lg1⟩, -⟩ := hB.below hk.2; obtain ⟨mg10, mg11, mg12, mg13⟩ := bg1.quad; clear bg1 lg1; (try clear mz0 mz1); obtain ⟨mz0, mz1⟩ := (hz.below hk.2).two; clear hk)))
  have hz' := (hz.below oc.2).below (run_new w' s0 s1 s2 s3 _ rfl).2.2
  clear hz
  (try clear mz0 mz1 fz0 fz1)
  have hB' := Bs.new (hB.below oc.2) s0 s1 s2 s3
  have o' := (oo.step oc.2).step (run_new w' s0 s1 s2 s3 _ rfl).2.2
  clear hB oo oc fg10 fg11 fg12 fg13 KC KN
  (try clear mg10 mg11 mg12 mg13)
  generalize (w'.alloc (Obj.cells #[Value.int IntKind.i8 s0, Value.int IntKind.i64 s1, Value.int IntKind.i8 s2, Value.int IntKind.i64 s3] 26)) = W2 at *
  generalize w'.heap.size = g2 at *
  have hB := hB'
  have oo := o'
  clear hB' o'
  have oc := Ok.refl oo.1
  obtain ⟨⟨bg2, lg2⟩, ⟨bg1, lg1⟩, -⟩ := id hB
  obtain ⟨fg20, fg21, fg22, fg23⟩ := bg2.quad
  obtain ⟨fg10, fg11, fg12, fg13⟩ := bg1.quad
  clear bg2 lg2 bg1 lg1
  have hz := hz'
  clear hz'
  obtain ⟨fz0, fz1⟩ := hz.two
  go_upto_region 5 with (go_at_call 26; ((with_reducible refine (KO.out _ _ oc).mono ?_); rintro e1 w' ⟨rfl, hk⟩; (try clear oc); have oc := hk; (try clear mg20 mg21 mg22 mg23 mg10 mg11 mg12 mg13); obtain ⟨⟨bg2, lg2⟩, ⟨bg1, lg1⟩, -⟩ := hB.below hk.2; obtain ⟨mg20, mg21, mg22, mg23⟩ := bg2.quad; obtain ⟨mg10, mg11, mg12, mg13⟩ := bg1.quad; clear bg2 lg2 bg1 lg1; (try clear mz0 mz1); obtain ⟨mz0, mz1⟩ := (hz.below hk.2).two; clear hk))
  have hz' := (hz.below oc.2).below (run_new w' 0 0 0 0 _ rfl).2.2
  clear hz
  (try clear mz0 mz1 fz0 fz1)
  have hB' := Bs.new (hB.below oc.2) 0 0 0 0
  have o' := (oo.step oc.2).step (run_new w' 0 0 0 0 _ rfl).2.2
  clear hB oo oc fg20 fg21 fg22 fg23 fg10 fg11 fg12 fg13 KO
  (try clear mg20 mg21 mg22 mg23 mg10 mg11 mg12 mg13)
  generalize (w'.alloc (Obj.cells #[Value.int IntKind.i8 0, Value.int IntKind.i64 0, Value.int IntKind.i8 0, Value.int IntKind.i64 0] 26)) = W3 at *
  generalize w'.heap.size = g3 at *
  have hB := hB'
  have oo := o'
  clear hB' o'
  have oc := Ok.refl oo.1
  obtain ⟨⟨bg3, lg3⟩, ⟨bg2, lg2⟩, ⟨bg1, lg1⟩, -⟩ := id hB
  obtain ⟨fg30, fg31, fg32, fg33⟩ := bg3.quad
  obtain ⟨fg20, fg21, fg22, fg23⟩ := bg2.quad
  obtain ⟨fg10, fg11, fg12, fg13⟩ := bg1.quad
  clear bg3 lg3 bg2 lg2 bg1 lg1
  have hz := hz'
  clear hz'
  obtain ⟨fz0, fz1⟩ := hz.two
  refine wp_region_held_drew (S := (fun x => x.cell? ⟨g3, 0, none⟩ = some (.int .i8 0) ∧ x.cell? ⟨g3, 1, none⟩ = some (.int .i64 0) ∧ x.cell? ⟨g3, 2, none⟩ = some (.int .i8 0) ∧ x.cell? ⟨g3, 3, none⟩ = some (.int .i64 0) ∧ x.cell? ⟨g2, 0, none⟩ = some (.int .i8 s0) ∧ x.cell? ⟨g2, 1, none⟩ = some (.int .i64 s1) ∧ x.cell? ⟨g2, 2, none⟩ = some (.int .i8 s2) ∧ x.cell? ⟨g2, 3, none⟩ = some (.int .i64 s3) ∧ x.cell? ⟨g1, 0, none⟩ = some (.int .i8 i) ∧ x.cell? ⟨g1, 1, none⟩ = some (.int .i64 d) ∧ x.cell? ⟨g1, 2, none⟩ = some (.int .i8 j) ∧ x.cell? ⟨g1, 3, none⟩ = some (.int .i64 e) ∧ x.cell? ⟨gz, 0, none⟩ = some (.int .i64 lo) ∧ x.cell? ⟨gz, 1, none⟩ = some (.int .i64 hi))) (by kernel_rfl) ?_ (fun hHeld => ?_)
  · (try dsimp only)
    go_keep
  refine wpAnyH_take (i := 0) (oi := ?oi0x) (v := ?v0x) ?hi0x (by kernel_rfl) (by kernel_rfl) (by kernel_rfl) ?hQ0x ?hy0x (by assumption) ?rest0x
  case hi0x => (simp only [List.getElem?_toArray, List.getElem?_cons_zero]; rfl)
  case hQ0x => exact fun _ _ _ h => h
  case hy0x => exact Or.inl ⟨by rfl, by (intro w hSw; (try dsimp only at hSw); go_simp; try with_reducible rfl)⟩
  (try simp only [Act.put, List.setIfInBounds_toArray, List.set_cons_zero, List.set_cons_succ])
  refine wpAnyH_take (i := 1) (oi := ?oi1x) (v := ?v1x) ?hi1x (by kernel_rfl) (by kernel_rfl) (by kernel_rfl) ?hQ1x ?hy1x (by assumption) ?rest1x
  case hi1x => (simp only [List.getElem?_toArray, List.getElem?_cons_succ, List.getElem?_cons_zero]; rfl)
  case hQ1x => exact fun _ _ _ h => h
  case hy1x => exact Or.inl ⟨by rfl, by (intro w hSw; (try dsimp only at hSw); go_simp; try with_reducible rfl)⟩
  (try simp only [Act.put, List.setIfInBounds_toArray, List.set_cons_zero, List.set_cons_succ])
  refine wpAnyH_take (i := 2) (oi := ?oi2x) (v := ?v2x) ?hi2x (by kernel_rfl) (by kernel_rfl) (by kernel_rfl) ?hQ2x ?hy2x (by assumption) ?rest2x
  case hi2x => (simp only [List.getElem?_toArray, List.getElem?_cons_succ, List.getElem?_cons_zero]; rfl)
  case hQ2x => exact fun _ _ _ h => h
  case hy2x => exact Or.inl ⟨by rfl, by (intro w hSw; (try dsimp only at hSw); go_simp; try with_reducible rfl)⟩
  (try simp only [Act.put, List.setIfInBounds_toArray, List.set_cons_zero, List.set_cons_succ])
  refine wpAnyH_take (i := 3) (oi := ?oi3x) (v := ?v3x) ?hi3x (by kernel_rfl) (by kernel_rfl) (by kernel_rfl) ?hQ3x ?hy3x (by assumption) ?rest3x
  case hi3x => (simp only [List.getElem?_toArray, List.getElem?_cons_succ, List.getElem?_cons_zero]; rfl)
  case hQ3x => exact fun _ _ _ h => h
  case hy3x => exact Or.inl ⟨by rfl, by (intro w hSw; (try dsimp only at hSw); go_simp; try with_reducible rfl)⟩
  (try simp only [Act.put, List.setIfInBounds_toArray, List.set_cons_zero, List.set_cons_succ])
  refine wpAnyH_take (i := 4) (oi := ?oi4x) (v := ?v4x) ?hi4x (by kernel_rfl) (by kernel_rfl) (by kernel_rfl) ?hQ4x ?hy4x (by assumption) ?rest4x
  case hi4x => (simp only [List.getElem?_toArray, List.getElem?_cons_succ, List.getElem?_cons_zero]; rfl)
  case hQ4x => exact fun _ _ _ h => h
  case hy4x => exact Or.inl ⟨by rfl, by (intro w hSw; (try dsimp only at hSw); go_simp; try with_reducible rfl)⟩
  (try simp only [Act.put, List.setIfInBounds_toArray, List.set_cons_zero, List.set_cons_succ])
  refine wpAnyH_take (i := 5) (oi := ?oi5x) (v := ?v5x) ?hi5x (by kernel_rfl) (by kernel_rfl) (by kernel_rfl) ?hQ5x ?hy5x (by assumption) ?rest5x
  case hi5x => (simp only [List.getElem?_toArray, List.getElem?_cons_succ, List.getElem?_cons_zero]; rfl)
  case hQ5x => exact fun _ _ _ h => h
  case hy5x => exact Or.inl ⟨by rfl, by (intro w hSw; (try dsimp only at hSw); go_simp; try with_reducible rfl)⟩
  (try simp only [Act.put, List.setIfInBounds_toArray, List.set_cons_zero, List.set_cons_succ])
  refine wpAnyH_take (i := 6) (oi := ?oi6x) (v := ?v6x) ?hi6x (by kernel_rfl) (by kernel_rfl) (by kernel_rfl) ?hQ6x ?hy6x (by assumption) ?rest6x
  case hi6x => (simp only [List.getElem?_toArray, List.getElem?_cons_succ, List.getElem?_cons_zero]; rfl)
  case hQ6x => exact fun _ _ _ h => h
  case hy6x => exact Or.inl ⟨by rfl, by (intro w hSw; (try dsimp only at hSw); go_simp; try with_reducible rfl)⟩
  (try simp only [Act.put, List.setIfInBounds_toArray, List.set_cons_zero, List.set_cons_succ])
  refine wpAnyH_take (i := 7) (oi := ?oi7x) (v := ?v7x) ?hi7x (by kernel_rfl) (by kernel_rfl) (by kernel_rfl) ?hQ7x ?hy7x (by assumption) ?rest7x
  case hi7x => (simp only [List.getElem?_toArray, List.getElem?_cons_succ, List.getElem?_cons_zero]; rfl)
  case hQ7x => exact fun _ _ _ h => h
  case hy7x => exact Or.inl ⟨by rfl, by (intro w hSw; (try dsimp only at hSw); go_simp; try with_reducible rfl)⟩
  (try simp only [Act.put, List.setIfInBounds_toArray, List.set_cons_zero, List.set_cons_succ])
  refine wpAnyH_take (i := 8) (oi := ?oi8x) (v := ?v8x) ?hi8x (by kernel_rfl) (by kernel_rfl) (by kernel_rfl) ?hQ8x ?hy8x (by assumption) ?rest8x
  case hi8x => (simp only [List.getElem?_toArray, List.getElem?_cons_succ, List.getElem?_cons_zero]; rfl)
  case hQ8x => exact fun _ _ _ h => h
  case hy8x => exact Or.inl ⟨by rfl, by (intro w hSw; (try dsimp only at hSw); go_simp; try with_reducible rfl)⟩
  (try simp only [Act.put, List.setIfInBounds_toArray, List.set_cons_zero, List.set_cons_succ])
  refine wpAnyH_ready (rs := [9]) (by kernel_rfl) (by simp) ?_
  refine AllReadyH.cons (o := ?oi9x) ?ho9x ?hK9x AllReadyH.nil
  case ho9x => (simp only [List.getElem?_toArray, List.getElem?_cons_succ, List.getElem?_cons_zero]; rfl)
  intro KK hKK
  go_simp
  (first
      | (go_at_call 27; ((with_reducible refine (KG5.out _ _ (oc.step (by go_grown))).mono ?_); rintro e1 w' ⟨rfl, hk⟩; (try clear oc); have oc := hk; (try clear mg30 mg31 mg32 mg33 mg20 mg21 mg22 mg23 mg10 mg11 mg12 mg13); obtain ⟨⟨bg3, lg3⟩, ⟨bg2, lg2⟩, ⟨bg1, lg1⟩, -⟩ := hB.below hk.2; obtain ⟨mg30, mg31, mg32, mg33⟩ := bg3.quad; obtain ⟨mg20, mg21, mg22, mg23⟩ := bg2.quad; obtain ⟨mg10, mg11, mg12, mg13⟩ := bg1.quad; clear bg3 lg3 bg2 lg2 bg1 lg1; (try clear mz0 mz1); obtain ⟨mz0, mz1⟩ := (hz.below hk.2).two; clear hk))
      | (go_at_call 28; ((with_reducible refine (KD.out _ _ (oc.step (by go_grown))).mono ?_); rintro e1 w' ⟨rfl, hk⟩; (try clear oc); have oc := hk; (try clear mg30 mg31 mg32 mg33 mg20 mg21 mg22 mg23 mg10 mg11 mg12 mg13); obtain ⟨⟨bg3, lg3⟩, ⟨bg2, lg2⟩, ⟨bg1, lg1⟩, -⟩ := hB.below hk.2; obtain ⟨mg30, mg31, mg32, mg33⟩ := bg3.quad; obtain ⟨mg20, mg21, mg22, mg23⟩ := bg2.quad; obtain ⟨mg10, mg11, mg12, mg13⟩ := bg1.quad; clear bg3 lg3 bg2 lg2 bg1 lg1; (try clear mz0 mz1); obtain ⟨mz0, mz1⟩ := (hz.below hk.2).two; clear hk)))
  (try go_wp2_with fail)
  refine hKK.out _ _ ?_ (fun hHeld => ?_)
  · (try dsimp only)
    go_keep
  clear hKK KK
  (try simp only [Act.put, List.setIfInBounds_toArray, List.set_cons_zero, List.set_cons_succ])
  refine wpAnyH_take (i := 10) (oi := ?oi10x) (v := ?v10x) ?hi10x (by kernel_rfl) (by kernel_rfl) (by kernel_rfl) ?hQ10x ?hy10x (by assumption) ?rest10x
  case hi10x => (simp only [List.getElem?_toArray, List.getElem?_cons_succ, List.getElem?_cons_zero]; rfl)
  case hQ10x => exact fun _ _ _ h => h
  case hy10x => exact Or.inl ⟨by rfl, by (intro w hSw; (try dsimp only at hSw); go_simp; try with_reducible rfl)⟩
  (try simp only [Act.put, List.setIfInBounds_toArray, List.set_cons_zero, List.set_cons_succ])
  refine wpAnyH_take (i := 11) (oi := ?oi11x) (v := ?v11x) ?hi11x (by kernel_rfl) (by kernel_rfl) (by kernel_rfl) ?hQ11x ?hy11x (by assumption) ?rest11x
  case hi11x => (simp only [List.getElem?_toArray, List.getElem?_cons_succ, List.getElem?_cons_zero]; rfl)
  case hQ11x => exact fun _ _ _ h => h
  case hy11x => exact Or.inl ⟨by rfl, by (intro w hSw; (try dsimp only at hSw); go_simp; try with_reducible rfl)⟩
  (try simp only [Act.put, List.setIfInBounds_toArray, List.set_cons_zero, List.set_cons_succ])
  refine wpAnyH_take (i := 12) (oi := ?oi12x) (v := ?v12x) ?hi12x (by kernel_rfl) (by kernel_rfl) (by kernel_rfl) ?hQ12x ?hy12x (by assumption) ?rest12x
  case hi12x => (simp only [List.getElem?_toArray, List.getElem?_cons_succ, List.getElem?_cons_zero]; rfl)
  case hQ12x => exact fun _ _ _ h => h
  case hy12x => exact Or.inl ⟨by rfl, by (intro w hSw; (try dsimp only at hSw); go_simp; try with_reducible rfl)⟩
  (try simp only [Act.put, List.setIfInBounds_toArray, List.set_cons_zero, List.set_cons_succ])
  refine wpAnyH_take (i := 13) (oi := ?oi13x) (v := ?v13x) ?hi13x (by kernel_rfl) (by kernel_rfl) (by kernel_rfl) ?hQ13x ?hy13x (by assumption) ?rest13x
  case hi13x => (simp only [List.getElem?_toArray, List.getElem?_cons_succ, List.getElem?_cons_zero]; rfl)
  case hQ13x => exact fun _ _ _ h => h
  case hy13x => exact Or.inl ⟨by rfl, by (intro w hSw; (try dsimp only at hSw); go_simp; try with_reducible rfl)⟩
  (try simp only [Act.put, List.setIfInBounds_toArray, List.set_cons_zero, List.set_cons_succ])
  refine wpAnyH_take (i := 14) (oi := ?oi14x) (v := ?v14x) ?hi14x (by kernel_rfl) (by kernel_rfl) (by kernel_rfl) ?hQ14x ?hy14x (by assumption) ?rest14x
  case hi14x => (simp only [List.getElem?_toArray, List.getElem?_cons_succ, List.getElem?_cons_zero]; rfl)
  case hQ14x => exact fun _ _ _ h => h
  case hy14x => exact Or.inl ⟨by rfl, by (intro w hSw; (try dsimp only at hSw); go_simp; try with_reducible rfl)⟩
  (try simp only [Act.put, List.setIfInBounds_toArray, List.set_cons_zero, List.set_cons_succ])
  refine wpAnyH_take (i := 15) (oi := ?oi15x) (v := ?v15x) ?hi15x (by kernel_rfl) (by kernel_rfl) (by kernel_rfl) ?hQ15x ?hy15x (by assumption) ?rest15x
  case hi15x => (simp only [List.getElem?_toArray, List.getElem?_cons_succ, List.getElem?_cons_zero]; rfl)
  case hQ15x => exact fun _ _ _ h => h
  case hy15x => exact Or.inl ⟨by rfl, by (intro w hSw; (try dsimp only at hSw); go_simp; try with_reducible rfl)⟩
  (try simp only [Act.put, List.setIfInBounds_toArray, List.set_cons_zero, List.set_cons_succ])
  refine wpAnyH_take (i := 16) (oi := ?oi16x) (v := ?v16x) ?hi16x (by kernel_rfl) (by kernel_rfl) (by kernel_rfl) ?hQ16x ?hy16x (by assumption) ?rest16x
  case hi16x => (simp only [List.getElem?_toArray, List.getElem?_cons_succ, List.getElem?_cons_zero]; rfl)
  case hQ16x => exact fun _ _ _ h => h
  case hy16x => exact Or.inl ⟨by rfl, by (intro w hSw; (try dsimp only at hSw); go_simp; try with_reducible rfl)⟩
  (try simp only [Act.put, List.setIfInBounds_toArray, List.set_cons_zero, List.set_cons_succ])
  refine wpAnyH_take (i := 17) (oi := ?oi17x) (v := ?v17x) ?hi17x (by kernel_rfl) (by kernel_rfl) (by kernel_rfl) ?hQ17x ?hy17x (by assumption) ?rest17x
  case hi17x => (simp only [List.getElem?_toArray, List.getElem?_cons_succ, List.getElem?_cons_zero]; rfl)
  case hQ17x => exact fun _ _ _ h => h
  case hy17x => exact Or.inl ⟨by rfl, by (intro w hSw; (try dsimp only at hSw); go_simp; try with_reducible rfl)⟩
  (try simp only [Act.put, List.setIfInBounds_toArray, List.set_cons_zero, List.set_cons_succ])
  refine wpAnyH_take (i := 18) (oi := ?oi18x) (v := ?v18x) ?hi18x (by kernel_rfl) (by kernel_rfl) (by kernel_rfl) ?hQ18x ?hy18x (by assumption) ?rest18x
  case hi18x => (simp only [List.getElem?_toArray, List.getElem?_cons_succ, List.getElem?_cons_zero]; rfl)
  case hQ18x => exact fun _ _ _ h => h
  case hy18x => exact Or.inl ⟨by rfl, by (intro w hSw; (try dsimp only at hSw); go_simp; try with_reducible rfl)⟩
  (try simp only [Act.put, List.setIfInBounds_toArray, List.set_cons_zero, List.set_cons_succ])
  refine wpAnyH_take (i := 19) (oi := ?oi19x) (v := undef) ?hi19x (by kernel_rfl) (by kernel_rfl) (by kernel_rfl) ?hQ19x ?hy19x (by assumption) ?rest19x
  case hi19x => (simp only [List.getElem?_toArray, List.getElem?_cons_succ, List.getElem?_cons_zero]; rfl)
  case hQ19x => exact fun _ _ _ h => h
  case hy19x => exact Or.inr ⟨by rfl, rfl⟩
  (try simp only [Act.put, List.setIfInBounds_toArray, List.set_cons_zero, List.set_cons_succ])
  refine wpAnyH_take (i := 20) (oi := ?oi20x) (v := undef) ?hi20x (by kernel_rfl) (by kernel_rfl) (by kernel_rfl) ?hQ20x ?hy20x (by assumption) ?rest20x
  case hi20x => (simp only [List.getElem?_toArray, List.getElem?_cons_succ, List.getElem?_cons_zero]; rfl)
  case hQ20x => exact fun _ _ _ h => h
  case hy20x => exact Or.inr ⟨by rfl, rfl⟩
  (try simp only [Act.put, List.setIfInBounds_toArray, List.set_cons_zero, List.set_cons_succ])
  refine wpAnyH_take (i := 21) (oi := ?oi21x) (v := undef) ?hi21x (by kernel_rfl) (by kernel_rfl) (by kernel_rfl) ?hQ21x ?hy21x (by assumption) ?rest21x
  case hi21x => (simp only [List.getElem?_toArray, List.getElem?_cons_succ, List.getElem?_cons_zero]; rfl)
  case hQ21x => exact fun _ _ _ h => h
  case hy21x => exact Or.inr ⟨by rfl, rfl⟩
  (try simp only [Act.put, List.setIfInBounds_toArray, List.set_cons_zero, List.set_cons_succ])
  refine wpAnyH_take (i := 22) (oi := ?oi22x) (v := undef) ?hi22x (by kernel_rfl) (by kernel_rfl) (by kernel_rfl) ?hQ22x ?hy22x (by assumption) ?rest22x
  case hi22x => (simp only [List.getElem?_toArray, List.getElem?_cons_succ, List.getElem?_cons_zero]; rfl)
  case hQ22x => exact fun _ _ _ h => h
  case hy22x => exact Or.inr ⟨by rfl, rfl⟩
  (try simp only [Act.put, List.setIfInBounds_toArray, List.set_cons_zero, List.set_cons_succ])
  refine wpAnyH_take (i := 23) (oi := ?oi23x) (v := undef) ?hi23x (by kernel_rfl) (by kernel_rfl) (by kernel_rfl) ?hQ23x ?hy23x (by assumption) ?rest23x
  case hi23x => (simp only [List.getElem?_toArray, List.getElem?_cons_succ, List.getElem?_cons_zero]; rfl)
  case hQ23x => exact fun _ _ _ h => h
  case hy23x => exact Or.inr ⟨by rfl, rfl⟩
  (try simp only [Act.put, List.setIfInBounds_toArray, List.set_cons_zero, List.set_cons_succ])
  refine wpAnyH_take (i := 24) (oi := ?oi24x) (v := undef) ?hi24x (by kernel_rfl) (by kernel_rfl) (by kernel_rfl) ?hQ24x ?hy24x (by assumption) ?rest24x
  case hi24x => (simp only [List.getElem?_toArray, List.getElem?_cons_succ, List.getElem?_cons_zero]; rfl)
  case hQ24x => exact fun _ _ _ h => h
  case hy24x => exact Or.inr ⟨by rfl, rfl⟩
  (try simp only [Act.put, List.setIfInBounds_toArray, List.set_cons_zero, List.set_cons_succ])
  refine wpAnyH_ready (rs := [25]) (by kernel_rfl) (by simp) ?_
  refine AllReadyH.cons (o := ?oi25x) ?ho25x ?hK25x AllReadyH.nil
  case ho25x => (simp only [List.getElem?_toArray, List.getElem?_cons_succ, List.getElem?_cons_zero]; rfl)
  intro KK hKK
  go_simp
  refine hKK.out _ _ (by assumption) (fun _ => ?_)
  clear hKK KK
  (try simp only [Act.put, List.setIfInBounds_toArray, List.set_cons_zero, List.set_cons_succ])
  refine wpAnyH_ready (rs := [26]) (by kernel_rfl) (by simp) ?_
  refine AllReadyH.cons (o := ?oi26x) ?ho26x ?hK26x AllReadyH.nil
  case ho26x => (simp only [List.getElem?_toArray, List.getElem?_cons_succ, List.getElem?_cons_zero]; rfl)
  intro KK hKK
  go_simp
  refine hKK.out _ _ (by assumption) (fun _ => ?_)
  clear hKK KK
  (try simp only [Act.put, List.setIfInBounds_toArray, List.set_cons_zero, List.set_cons_succ])
  refine wpAnyH_take (i := 27) (oi := ?oi27x) (v := undef) ?hi27x (by kernel_rfl) (by kernel_rfl) (by kernel_rfl) ?hQ27x ?hy27x (by assumption) ?rest27x
  case hi27x => (simp only [List.getElem?_toArray, List.getElem?_cons_succ, List.getElem?_cons_zero]; rfl)
  case hQ27x => exact fun _ _ _ h => h
  case hy27x => exact Or.inr ⟨by rfl, rfl⟩
  (try simp only [Act.put, List.setIfInBounds_toArray, List.set_cons_zero, List.set_cons_succ])
  refine wpAnyH_take (i := 28) (oi := ?oi28x) (v := ?v28x) ?hi28x (by kernel_rfl) (by kernel_rfl) (by kernel_rfl) ?hQ28x ?hy28x (by assumption) ?rest28x
  case hi28x => (simp only [List.getElem?_toArray, List.getElem?_cons_succ, List.getElem?_cons_zero]; rfl)
  case hQ28x => exact fun _ _ _ h => h
  case hy28x => exact Or.inl ⟨by rfl, by (intro w hSw; (try dsimp only at hSw); go_simp; try with_reducible rfl)⟩
  (try simp only [Act.put, List.setIfInBounds_toArray, List.set_cons_zero, List.set_cons_succ])
  refine wpAnyH_take (i := 29) (oi := ?oi29x) (v := ?v29x) ?hi29x (by kernel_rfl) (by kernel_rfl) (by kernel_rfl) ?hQ29x ?hy29x (by assumption) ?rest29x
  case hi29x => (simp only [List.getElem?_toArray, List.getElem?_cons_succ, List.getElem?_cons_zero]; rfl)
  case hQ29x => exact fun _ _ _ h => h
  case hy29x => exact Or.inl ⟨by rfl, by (intro w hSw; (try dsimp only at hSw); go_simp; try with_reducible rfl)⟩
  (try simp only [Act.put, List.setIfInBounds_toArray, List.set_cons_zero, List.set_cons_succ])
  refine wpAnyH_done (by kernel_rfl) ?_ _
  go_upto_region 11 with (first
        | (go_at_call 29; ((with_reducible refine (KRN.out _ _ oc).mono ?_); rintro e1 w' ⟨rfl, hk⟩; (try clear oc); have oc := hk; (try clear mg30 mg31 mg32 mg33 mg20 mg21 mg22 mg23 mg10 mg11 mg12 mg13); obtain ⟨⟨bg3, lg3⟩, ⟨bg2, lg2⟩, ⟨bg1, lg1⟩, -⟩ := hB.below hk.2; obtain ⟨mg30, mg31, mg32, mg33⟩ := bg3.quad; obtain ⟨mg20, mg21, mg22, mg23⟩ := bg2.quad; obtain ⟨mg10, mg11, mg12, mg13⟩ := bg1.quad; clear bg3 lg3 bg2 lg2 bg1 lg1; (try clear mz0 mz1); obtain ⟨mz0, mz1⟩ := (hz.below hk.2).two; clear hk))
        | (go_at_call 30; ((with_reducible refine (KRS.out _ _ oc).mono ?_); rintro e1 w' ⟨rfl, hk⟩; (try clear oc); have oc := hk; (try clear mg30 mg31 mg32 mg33 mg20 mg21 mg22 mg23 mg10 mg11 mg12 mg13); obtain ⟨⟨bg3, lg3⟩, ⟨bg2, lg2⟩, ⟨bg1, lg1⟩, -⟩ := hB.below hk.2; obtain ⟨mg30, mg31, mg32, mg33⟩ := bg3.quad; obtain ⟨mg20, mg21, mg22, mg23⟩ := bg2.quad; obtain ⟨mg10, mg11, mg12, mg13⟩ := bg1.quad; clear bg3 lg3 bg2 lg2 bg1 lg1; (try clear mz0 mz1); obtain ⟨mz0, mz1⟩ := (hz.below hk.2).two; clear hk)))
  have hz' := (hz.below oc.2).below (run_new w' s0 s1 s2 s3 _ rfl).2.2
  clear hz
  (try clear mz0 mz1 fz0 fz1)
  have hB' := Bs.new (hB.below oc.2) s0 s1 s2 s3
  have o' := (oo.step oc.2).step (run_new w' s0 s1 s2 s3 _ rfl).2.2
  clear hB oo oc fg30 fg31 fg32 fg33 fg20 fg21 fg22 fg23 fg10 fg11 fg12 fg13 KRN KRS
  (try clear mg30 mg31 mg32 mg33 mg20 mg21 mg22 mg23 mg10 mg11 mg12 mg13)
  generalize (w'.alloc (Obj.cells #[Value.int IntKind.i8 s0, Value.int IntKind.i64 s1, Value.int IntKind.i8 s2, Value.int IntKind.i64 s3] 26)) = W4 at *
  generalize w'.heap.size = g4 at *
  have hB := hB'
  have oo := o'
  clear hB' o'
  have oc := Ok.refl oo.1
  obtain ⟨⟨bg4, lg4⟩, ⟨bg3, lg3⟩, ⟨bg2, lg2⟩, ⟨bg1, lg1⟩, -⟩ := id hB
  obtain ⟨fg40, fg41, fg42, fg43⟩ := bg4.quad
  obtain ⟨fg30, fg31, fg32, fg33⟩ := bg3.quad
  obtain ⟨fg20, fg21, fg22, fg23⟩ := bg2.quad
  obtain ⟨fg10, fg11, fg12, fg13⟩ := bg1.quad
  clear bg4 lg4 bg3 lg3 bg2 lg2 bg1 lg1
  have hz := hz'
  clear hz'
  obtain ⟨fz0, fz1⟩ := hz.two
  go_wp2_with (first
        | (go_at_call 27; ((with_reducible refine (KG.out _ _ oc).mono ?_); rintro e1 w' ⟨rfl, hk⟩; (try clear oc); have oc := hk; (try clear mg40 mg41 mg42 mg43 mg30 mg31 mg32 mg33 mg20 mg21 mg22 mg23 mg10 mg11 mg12 mg13); obtain ⟨⟨bg4, lg4⟩, ⟨bg3, lg3⟩, ⟨bg2, lg2⟩, ⟨bg1, lg1⟩, -⟩ := hB.below hk.2; obtain ⟨mg40, mg41, mg42, mg43⟩ := bg4.quad; obtain ⟨mg30, mg31, mg32, mg33⟩ := bg3.quad; obtain ⟨mg20, mg21, mg22, mg23⟩ := bg2.quad; obtain ⟨mg10, mg11, mg12, mg13⟩ := bg1.quad; clear bg4 lg4 bg3 lg3 bg2 lg2 bg1 lg1; (try clear mz0 mz1); obtain ⟨mz0, mz1⟩ := (hz.below hk.2).two; clear hk))
        | (go_at_call 23; ((with_reducible refine (KL.out _ _ oc).mono ?_); rintro e1 w' ⟨rfl, hk⟩; (try clear oc); have oc := hk; clear hk)))
  go_ret
  exact ⟨rfl, oo.step oc.2⟩

set_option maxRecDepth 100000 in
set_option maxHeartbeats 8000000 in
theorem one_gt_min (i d j e lo hi m n s0 s1 s2 s3 : Int) (w W : World) (KL : Hid (∀ B X, Ok B X → Calls Tryz.prog 23 #[] X fun x w' => x = .returned (.bool true) ∧ Ok B w')) (KO : Hid (∀ B X, Ok B X → Calls Tryz.prog 26 #[.int .i64 lo, .int .i64 hi] X fun x w' => x = .returned (.tuple #[U4 0 0 0 0, .int .i64 12]) ∧ Ok B w')) (KG5 : Hid (∀ B X, Ok B X → Calls Tryz.prog 27 #[U4 0 0 0 0, .int .i64 12, U4 i d j e, .int .i64 12] X fun x w' => x = .returned (.bool true) ∧ Ok B w')) (KC : Hid (∀ B X, Ok B X → Calls Tryz.prog 7 #[U4 i d j e] X fun x w' => x = .returned (.int .i64 0) ∧ Ok B w')) (KN : Hid (∀ B X, Ok B X → Calls Tryz.prog 24 #[U4 i d j e] X fun x w' => x = .returned (.tuple #[.int .i64 m, .int .i64 n]) ∧ Ok B w')) (KS : Hid (∀ B X, Ok B X → Calls Tryz.prog 25 #[U4 i d j e, .int .i64 (-9223372036854775808)] X fun x w' => x = .returned (.tuple #[U4 s0 s1 s2 s3, .int .i64 0]) ∧ Ok B w')) (KRN : Hid (∀ B X, Ok B X → Calls Tryz.prog 29 #[U4 i d j e] X fun x w' => x = .returned (.tuple #[.int .i64 m, .int .i64 n]) ∧ Ok B w')) (KRS : Hid (∀ B X, Ok B X → Calls Tryz.prog 30 #[U4 i d j e, .int .i64 (-9223372036854775808)] X fun x w' => x = .returned (.tuple #[U4 s0 s1 s2 s3, .int .i64 0]) ∧ Ok B w')) (KG : Hid (∀ B X, Ok B X → Calls Tryz.prog 27 #[U4 s0 s1 s2 s3, .int .i64 0, U4 s0 s1 s2 s3, .int .i64 0] X fun x w' => x = .returned (.bool true) ∧ Ok B w')) (hxy : hi < lo) (ho : Ok w W) :
    Calls Tryz.prog 4 #[U4 i d j e, .int .i64 (-9223372036854775808), .agg #[.int .i64 lo, .int .i64 hi]] W fun e w' => e = .returned (.bool true) ∧ Ok w w' := by
  have hm1 : (m != m) = false := by simp
  have hm2 : (n != n) = false := by simp
  have hx1 : decide (hi < lo) = true := decide_eq_true hxy
  have hx2 : decide (lo ≤ hi) = false := decide_eq_false (by omega)
  clear hxy
  go_enter Tryz.func4, Tryz.ntmps4
  go_upto_region 1 with fail
  have hB0 := Bs.new (show Bs W [] from trivial) i d j e
  have o0 := ho.step (run_new W i d j e _ rfl).2.2
  have hs0 := (run_new W i d j e _ rfl).2.1
  generalize (W.alloc (Obj.cells #[Value.int IntKind.i8 i, Value.int IntKind.i64 d, Value.int IntKind.i8 j, Value.int IntKind.i64 e] 26)) = W0 at *
  have hB := hB0.below (show Below W0.heap.size W0 (W0.alloc (Obj.cells #[Value.int IntKind.i64 lo, Value.int IntKind.i64 hi] 39)) from by go_grown)
  have oo := o0.step (show Below W0.heap.size W0 (W0.alloc (Obj.cells #[Value.int IntKind.i64 lo, Value.int IntKind.i64 hi] 39)) from by go_grown)
  have hz := ZB.new W0 lo hi
  rw [hs0] at hz
  clear hB0 o0 ho hs0
  generalize (W0.alloc (Obj.cells #[Value.int IntKind.i64 lo, Value.int IntKind.i64 hi] 39)) = W1 at *
  generalize W.heap.size + 1 = gz at *
  generalize W.heap.size = g1 at *
  have oc := Ok.refl oo.1
  obtain ⟨⟨bg1, lg1⟩, -⟩ := id hB
  obtain ⟨fg10, fg11, fg12, fg13⟩ := bg1.quad
  clear bg1 lg1
  obtain ⟨fz0, fz1⟩ := hz.two
  go_upto_region 4 with (first
        | (go_at_call 7; ((with_reducible refine (KC.out _ _ oc).mono ?_); rintro e1 w' ⟨rfl, hk⟩; (try clear oc); have oc := hk; (try clear mg10 mg11 mg12 mg13); obtain ⟨⟨bg1, lg1⟩, -⟩ := hB.below hk.2; obtain ⟨mg10, mg11, mg12, mg13⟩ := bg1.quad; clear bg1 lg1; (try clear mz0 mz1); obtain ⟨mz0, mz1⟩ := (hz.below hk.2).two; clear hk))
        | (go_at_call 24; ((with_reducible refine (KN.out _ _ oc).mono ?_); rintro e1 w' ⟨rfl, hk⟩; (try clear oc); have oc := hk; (try clear mg10 mg11 mg12 mg13); obtain ⟨⟨bg1, lg1⟩, -⟩ := hB.below hk.2; obtain ⟨mg10, mg11, mg12, mg13⟩ := bg1.quad; clear bg1 lg1; (try clear mz0 mz1); obtain ⟨mz0, mz1⟩ := (hz.below hk.2).two; clear hk))
        | (go_at_call 25; ((with_reducible refine (KS.out _ _ oc).mono ?_); rintro e1 w' ⟨rfl, hk⟩; (try clear oc); have oc := hk; (try clear mg10 mg11 mg12 mg13); obtain ⟨⟨bg1, lg1⟩, -⟩ := hB.below hk.2; obtain ⟨mg10, mg11, mg12, mg13⟩ := bg1.quad; clear bg1 lg1; (try clear mz0 mz1); obtain ⟨mz0, mz1⟩ := (hz.below hk.2).two; clear hk)))
  have hz' := (hz.below oc.2).below (run_new w' s0 s1 s2 s3 _ rfl).2.2
  clear hz
  (try clear mz0 mz1 fz0 fz1)
  have hB' := Bs.new (hB.below oc.2) s0 s1 s2 s3
  have o' := (oo.step oc.2).step (run_new w' s0 s1 s2 s3 _ rfl).2.2
  clear hB oo oc fg10 fg11 fg12 fg13 KC KN
  (try clear mg10 mg11 mg12 mg13)
  generalize (w'.alloc (Obj.cells #[Value.int IntKind.i8 s0, Value.int IntKind.i64 s1, Value.int IntKind.i8 s2, Value.int IntKind.i64 s3] 26)) = W2 at *
  generalize w'.heap.size = g2 at *
  have hB := hB'
  have oo := o'
  clear hB' o'
  have oc := Ok.refl oo.1
  obtain ⟨⟨bg2, lg2⟩, ⟨bg1, lg1⟩, -⟩ := id hB
  obtain ⟨fg20, fg21, fg22, fg23⟩ := bg2.quad
  obtain ⟨fg10, fg11, fg12, fg13⟩ := bg1.quad
  clear bg2 lg2 bg1 lg1
  have hz := hz'
  clear hz'
  obtain ⟨fz0, fz1⟩ := hz.two
  go_upto_region 5 with (go_at_call 26; ((with_reducible refine (KO.out _ _ oc).mono ?_); rintro e1 w' ⟨rfl, hk⟩; (try clear oc); have oc := hk; (try clear mg20 mg21 mg22 mg23 mg10 mg11 mg12 mg13); obtain ⟨⟨bg2, lg2⟩, ⟨bg1, lg1⟩, -⟩ := hB.below hk.2; obtain ⟨mg20, mg21, mg22, mg23⟩ := bg2.quad; obtain ⟨mg10, mg11, mg12, mg13⟩ := bg1.quad; clear bg2 lg2 bg1 lg1; (try clear mz0 mz1); obtain ⟨mz0, mz1⟩ := (hz.below hk.2).two; clear hk))
  have hz' := (hz.below oc.2).below (run_new w' 0 0 0 0 _ rfl).2.2
  clear hz
  (try clear mz0 mz1 fz0 fz1)
  have hB' := Bs.new (hB.below oc.2) 0 0 0 0
  have o' := (oo.step oc.2).step (run_new w' 0 0 0 0 _ rfl).2.2
  clear hB oo oc fg20 fg21 fg22 fg23 fg10 fg11 fg12 fg13 KO
  (try clear mg20 mg21 mg22 mg23 mg10 mg11 mg12 mg13)
  generalize (w'.alloc (Obj.cells #[Value.int IntKind.i8 0, Value.int IntKind.i64 0, Value.int IntKind.i8 0, Value.int IntKind.i64 0] 26)) = W3 at *
  generalize w'.heap.size = g3 at *
  have hB := hB'
  have oo := o'
  clear hB' o'
  have oc := Ok.refl oo.1
  obtain ⟨⟨bg3, lg3⟩, ⟨bg2, lg2⟩, ⟨bg1, lg1⟩, -⟩ := id hB
  obtain ⟨fg30, fg31, fg32, fg33⟩ := bg3.quad
  obtain ⟨fg20, fg21, fg22, fg23⟩ := bg2.quad
  obtain ⟨fg10, fg11, fg12, fg13⟩ := bg1.quad
  clear bg3 lg3 bg2 lg2 bg1 lg1
  have hz := hz'
  clear hz'
  obtain ⟨fz0, fz1⟩ := hz.two
  refine wp_region_held_drew (S := (fun x => x.cell? ⟨g3, 0, none⟩ = some (.int .i8 0) ∧ x.cell? ⟨g3, 1, none⟩ = some (.int .i64 0) ∧ x.cell? ⟨g3, 2, none⟩ = some (.int .i8 0) ∧ x.cell? ⟨g3, 3, none⟩ = some (.int .i64 0) ∧ x.cell? ⟨g2, 0, none⟩ = some (.int .i8 s0) ∧ x.cell? ⟨g2, 1, none⟩ = some (.int .i64 s1) ∧ x.cell? ⟨g2, 2, none⟩ = some (.int .i8 s2) ∧ x.cell? ⟨g2, 3, none⟩ = some (.int .i64 s3) ∧ x.cell? ⟨g1, 0, none⟩ = some (.int .i8 i) ∧ x.cell? ⟨g1, 1, none⟩ = some (.int .i64 d) ∧ x.cell? ⟨g1, 2, none⟩ = some (.int .i8 j) ∧ x.cell? ⟨g1, 3, none⟩ = some (.int .i64 e) ∧ x.cell? ⟨gz, 0, none⟩ = some (.int .i64 lo) ∧ x.cell? ⟨gz, 1, none⟩ = some (.int .i64 hi))) (by kernel_rfl) ?_ (fun hHeld => ?_)
  · (try dsimp only)
    go_keep
  refine wpAnyH_take (i := 0) (oi := ?oi0x) (v := ?v0x) ?hi0x (by kernel_rfl) (by kernel_rfl) (by kernel_rfl) ?hQ0x ?hy0x (by assumption) ?rest0x
  case hi0x => (simp only [List.getElem?_toArray, List.getElem?_cons_zero]; rfl)
  case hQ0x => exact fun _ _ _ h => h
  case hy0x => exact Or.inl ⟨by rfl, by (intro w hSw; (try dsimp only at hSw); go_simp; try with_reducible rfl)⟩
  (try simp only [Act.put, List.setIfInBounds_toArray, List.set_cons_zero, List.set_cons_succ])
  refine wpAnyH_take (i := 1) (oi := ?oi1x) (v := ?v1x) ?hi1x (by kernel_rfl) (by kernel_rfl) (by kernel_rfl) ?hQ1x ?hy1x (by assumption) ?rest1x
  case hi1x => (simp only [List.getElem?_toArray, List.getElem?_cons_succ, List.getElem?_cons_zero]; rfl)
  case hQ1x => exact fun _ _ _ h => h
  case hy1x => exact Or.inl ⟨by rfl, by (intro w hSw; (try dsimp only at hSw); go_simp; try with_reducible rfl)⟩
  (try simp only [Act.put, List.setIfInBounds_toArray, List.set_cons_zero, List.set_cons_succ])
  refine wpAnyH_take (i := 2) (oi := ?oi2x) (v := ?v2x) ?hi2x (by kernel_rfl) (by kernel_rfl) (by kernel_rfl) ?hQ2x ?hy2x (by assumption) ?rest2x
  case hi2x => (simp only [List.getElem?_toArray, List.getElem?_cons_succ, List.getElem?_cons_zero]; rfl)
  case hQ2x => exact fun _ _ _ h => h
  case hy2x => exact Or.inl ⟨by rfl, by (intro w hSw; (try dsimp only at hSw); go_simp; try with_reducible rfl)⟩
  (try simp only [Act.put, List.setIfInBounds_toArray, List.set_cons_zero, List.set_cons_succ])
  refine wpAnyH_take (i := 3) (oi := ?oi3x) (v := ?v3x) ?hi3x (by kernel_rfl) (by kernel_rfl) (by kernel_rfl) ?hQ3x ?hy3x (by assumption) ?rest3x
  case hi3x => (simp only [List.getElem?_toArray, List.getElem?_cons_succ, List.getElem?_cons_zero]; rfl)
  case hQ3x => exact fun _ _ _ h => h
  case hy3x => exact Or.inl ⟨by rfl, by (intro w hSw; (try dsimp only at hSw); go_simp; try with_reducible rfl)⟩
  (try simp only [Act.put, List.setIfInBounds_toArray, List.set_cons_zero, List.set_cons_succ])
  refine wpAnyH_take (i := 4) (oi := ?oi4x) (v := ?v4x) ?hi4x (by kernel_rfl) (by kernel_rfl) (by kernel_rfl) ?hQ4x ?hy4x (by assumption) ?rest4x
  case hi4x => (simp only [List.getElem?_toArray, List.getElem?_cons_succ, List.getElem?_cons_zero]; rfl)
  case hQ4x => exact fun _ _ _ h => h
  case hy4x => exact Or.inl ⟨by rfl, by (intro w hSw; (try dsimp only at hSw); go_simp; try with_reducible rfl)⟩
  (try simp only [Act.put, List.setIfInBounds_toArray, List.set_cons_zero, List.set_cons_succ])
  refine wpAnyH_take (i := 5) (oi := ?oi5x) (v := ?v5x) ?hi5x (by kernel_rfl) (by kernel_rfl) (by kernel_rfl) ?hQ5x ?hy5x (by assumption) ?rest5x
  case hi5x => (simp only [List.getElem?_toArray, List.getElem?_cons_succ, List.getElem?_cons_zero]; rfl)
  case hQ5x => exact fun _ _ _ h => h
  case hy5x => exact Or.inl ⟨by rfl, by (intro w hSw; (try dsimp only at hSw); go_simp; try with_reducible rfl)⟩
  (try simp only [Act.put, List.setIfInBounds_toArray, List.set_cons_zero, List.set_cons_succ])
  refine wpAnyH_take (i := 6) (oi := ?oi6x) (v := ?v6x) ?hi6x (by kernel_rfl) (by kernel_rfl) (by kernel_rfl) ?hQ6x ?hy6x (by assumption) ?rest6x
  case hi6x => (simp only [List.getElem?_toArray, List.getElem?_cons_succ, List.getElem?_cons_zero]; rfl)
  case hQ6x => exact fun _ _ _ h => h
  case hy6x => exact Or.inl ⟨by rfl, by (intro w hSw; (try dsimp only at hSw); go_simp; try with_reducible rfl)⟩
  (try simp only [Act.put, List.setIfInBounds_toArray, List.set_cons_zero, List.set_cons_succ])
  refine wpAnyH_take (i := 7) (oi := ?oi7x) (v := ?v7x) ?hi7x (by kernel_rfl) (by kernel_rfl) (by kernel_rfl) ?hQ7x ?hy7x (by assumption) ?rest7x
  case hi7x => (simp only [List.getElem?_toArray, List.getElem?_cons_succ, List.getElem?_cons_zero]; rfl)
  case hQ7x => exact fun _ _ _ h => h
  case hy7x => exact Or.inl ⟨by rfl, by (intro w hSw; (try dsimp only at hSw); go_simp; try with_reducible rfl)⟩
  (try simp only [Act.put, List.setIfInBounds_toArray, List.set_cons_zero, List.set_cons_succ])
  refine wpAnyH_take (i := 8) (oi := ?oi8x) (v := ?v8x) ?hi8x (by kernel_rfl) (by kernel_rfl) (by kernel_rfl) ?hQ8x ?hy8x (by assumption) ?rest8x
  case hi8x => (simp only [List.getElem?_toArray, List.getElem?_cons_succ, List.getElem?_cons_zero]; rfl)
  case hQ8x => exact fun _ _ _ h => h
  case hy8x => exact Or.inl ⟨by rfl, by (intro w hSw; (try dsimp only at hSw); go_simp; try with_reducible rfl)⟩
  (try simp only [Act.put, List.setIfInBounds_toArray, List.set_cons_zero, List.set_cons_succ])
  refine wpAnyH_ready (rs := [9]) (by kernel_rfl) (by simp) ?_
  refine AllReadyH.cons (o := ?oi9x) ?ho9x ?hK9x AllReadyH.nil
  case ho9x => (simp only [List.getElem?_toArray, List.getElem?_cons_succ, List.getElem?_cons_zero]; rfl)
  intro KK hKK
  go_simp
  (first
      | (go_at_call 27; ((with_reducible refine (KG5.out _ _ (oc.step (by go_grown))).mono ?_); rintro e1 w' ⟨rfl, hk⟩; (try clear oc); have oc := hk; (try clear mg30 mg31 mg32 mg33 mg20 mg21 mg22 mg23 mg10 mg11 mg12 mg13); obtain ⟨⟨bg3, lg3⟩, ⟨bg2, lg2⟩, ⟨bg1, lg1⟩, -⟩ := hB.below hk.2; obtain ⟨mg30, mg31, mg32, mg33⟩ := bg3.quad; obtain ⟨mg20, mg21, mg22, mg23⟩ := bg2.quad; obtain ⟨mg10, mg11, mg12, mg13⟩ := bg1.quad; clear bg3 lg3 bg2 lg2 bg1 lg1; (try clear mz0 mz1); obtain ⟨mz0, mz1⟩ := (hz.below hk.2).two; clear hk))
      | (go_at_call 28; ((with_reducible refine (KD.out _ _ (oc.step (by go_grown))).mono ?_); rintro e1 w' ⟨rfl, hk⟩; (try clear oc); have oc := hk; (try clear mg30 mg31 mg32 mg33 mg20 mg21 mg22 mg23 mg10 mg11 mg12 mg13); obtain ⟨⟨bg3, lg3⟩, ⟨bg2, lg2⟩, ⟨bg1, lg1⟩, -⟩ := hB.below hk.2; obtain ⟨mg30, mg31, mg32, mg33⟩ := bg3.quad; obtain ⟨mg20, mg21, mg22, mg23⟩ := bg2.quad; obtain ⟨mg10, mg11, mg12, mg13⟩ := bg1.quad; clear bg3 lg3 bg2 lg2 bg1 lg1; (try clear mz0 mz1); obtain ⟨mz0, mz1⟩ := (hz.below hk.2).two; clear hk)))
  (try go_wp2_with fail)
  refine hKK.out _ _ ?_ (fun hHeld => ?_)
  · (try dsimp only)
    go_keep
  clear hKK KK
  (try simp only [Act.put, List.setIfInBounds_toArray, List.set_cons_zero, List.set_cons_succ])
  refine wpAnyH_take (i := 10) (oi := ?oi10x) (v := ?v10x) ?hi10x (by kernel_rfl) (by kernel_rfl) (by kernel_rfl) ?hQ10x ?hy10x (by assumption) ?rest10x
  case hi10x => (simp only [List.getElem?_toArray, List.getElem?_cons_succ, List.getElem?_cons_zero]; rfl)
  case hQ10x => exact fun _ _ _ h => h
  case hy10x => exact Or.inl ⟨by rfl, by (intro w hSw; (try dsimp only at hSw); go_simp; try with_reducible rfl)⟩
  (try simp only [Act.put, List.setIfInBounds_toArray, List.set_cons_zero, List.set_cons_succ])
  refine wpAnyH_take (i := 11) (oi := ?oi11x) (v := ?v11x) ?hi11x (by kernel_rfl) (by kernel_rfl) (by kernel_rfl) ?hQ11x ?hy11x (by assumption) ?rest11x
  case hi11x => (simp only [List.getElem?_toArray, List.getElem?_cons_succ, List.getElem?_cons_zero]; rfl)
  case hQ11x => exact fun _ _ _ h => h
  case hy11x => exact Or.inl ⟨by rfl, by (intro w hSw; (try dsimp only at hSw); go_simp; try with_reducible rfl)⟩
  (try simp only [Act.put, List.setIfInBounds_toArray, List.set_cons_zero, List.set_cons_succ])
  refine wpAnyH_take (i := 12) (oi := ?oi12x) (v := ?v12x) ?hi12x (by kernel_rfl) (by kernel_rfl) (by kernel_rfl) ?hQ12x ?hy12x (by assumption) ?rest12x
  case hi12x => (simp only [List.getElem?_toArray, List.getElem?_cons_succ, List.getElem?_cons_zero]; rfl)
  case hQ12x => exact fun _ _ _ h => h
  case hy12x => exact Or.inl ⟨by rfl, by (intro w hSw; (try dsimp only at hSw); go_simp; try with_reducible rfl)⟩
  (try simp only [Act.put, List.setIfInBounds_toArray, List.set_cons_zero, List.set_cons_succ])
  refine wpAnyH_take (i := 13) (oi := ?oi13x) (v := ?v13x) ?hi13x (by kernel_rfl) (by kernel_rfl) (by kernel_rfl) ?hQ13x ?hy13x (by assumption) ?rest13x
  case hi13x => (simp only [List.getElem?_toArray, List.getElem?_cons_succ, List.getElem?_cons_zero]; rfl)
  case hQ13x => exact fun _ _ _ h => h
  case hy13x => exact Or.inl ⟨by rfl, by (intro w hSw; (try dsimp only at hSw); go_simp; try with_reducible rfl)⟩
  (try simp only [Act.put, List.setIfInBounds_toArray, List.set_cons_zero, List.set_cons_succ])
  refine wpAnyH_take (i := 14) (oi := ?oi14x) (v := ?v14x) ?hi14x (by kernel_rfl) (by kernel_rfl) (by kernel_rfl) ?hQ14x ?hy14x (by assumption) ?rest14x
  case hi14x => (simp only [List.getElem?_toArray, List.getElem?_cons_succ, List.getElem?_cons_zero]; rfl)
  case hQ14x => exact fun _ _ _ h => h
  case hy14x => exact Or.inl ⟨by rfl, by (intro w hSw; (try dsimp only at hSw); go_simp; try with_reducible rfl)⟩
  (try simp only [Act.put, List.setIfInBounds_toArray, List.set_cons_zero, List.set_cons_succ])
  refine wpAnyH_take (i := 15) (oi := ?oi15x) (v := ?v15x) ?hi15x (by kernel_rfl) (by kernel_rfl) (by kernel_rfl) ?hQ15x ?hy15x (by assumption) ?rest15x
  case hi15x => (simp only [List.getElem?_toArray, List.getElem?_cons_succ, List.getElem?_cons_zero]; rfl)
  case hQ15x => exact fun _ _ _ h => h
  case hy15x => exact Or.inl ⟨by rfl, by (intro w hSw; (try dsimp only at hSw); go_simp; try with_reducible rfl)⟩
  (try simp only [Act.put, List.setIfInBounds_toArray, List.set_cons_zero, List.set_cons_succ])
  refine wpAnyH_take (i := 16) (oi := ?oi16x) (v := ?v16x) ?hi16x (by kernel_rfl) (by kernel_rfl) (by kernel_rfl) ?hQ16x ?hy16x (by assumption) ?rest16x
  case hi16x => (simp only [List.getElem?_toArray, List.getElem?_cons_succ, List.getElem?_cons_zero]; rfl)
  case hQ16x => exact fun _ _ _ h => h
  case hy16x => exact Or.inl ⟨by rfl, by (intro w hSw; (try dsimp only at hSw); go_simp; try with_reducible rfl)⟩
  (try simp only [Act.put, List.setIfInBounds_toArray, List.set_cons_zero, List.set_cons_succ])
  refine wpAnyH_take (i := 17) (oi := ?oi17x) (v := ?v17x) ?hi17x (by kernel_rfl) (by kernel_rfl) (by kernel_rfl) ?hQ17x ?hy17x (by assumption) ?rest17x
  case hi17x => (simp only [List.getElem?_toArray, List.getElem?_cons_succ, List.getElem?_cons_zero]; rfl)
  case hQ17x => exact fun _ _ _ h => h
  case hy17x => exact Or.inl ⟨by rfl, by (intro w hSw; (try dsimp only at hSw); go_simp; try with_reducible rfl)⟩
  (try simp only [Act.put, List.setIfInBounds_toArray, List.set_cons_zero, List.set_cons_succ])
  refine wpAnyH_take (i := 18) (oi := ?oi18x) (v := ?v18x) ?hi18x (by kernel_rfl) (by kernel_rfl) (by kernel_rfl) ?hQ18x ?hy18x (by assumption) ?rest18x
  case hi18x => (simp only [List.getElem?_toArray, List.getElem?_cons_succ, List.getElem?_cons_zero]; rfl)
  case hQ18x => exact fun _ _ _ h => h
  case hy18x => exact Or.inl ⟨by rfl, by (intro w hSw; (try dsimp only at hSw); go_simp; try with_reducible rfl)⟩
  (try simp only [Act.put, List.setIfInBounds_toArray, List.set_cons_zero, List.set_cons_succ])
  refine wpAnyH_take (i := 19) (oi := ?oi19x) (v := undef) ?hi19x (by kernel_rfl) (by kernel_rfl) (by kernel_rfl) ?hQ19x ?hy19x (by assumption) ?rest19x
  case hi19x => (simp only [List.getElem?_toArray, List.getElem?_cons_succ, List.getElem?_cons_zero]; rfl)
  case hQ19x => exact fun _ _ _ h => h
  case hy19x => exact Or.inr ⟨by rfl, rfl⟩
  (try simp only [Act.put, List.setIfInBounds_toArray, List.set_cons_zero, List.set_cons_succ])
  refine wpAnyH_take (i := 20) (oi := ?oi20x) (v := undef) ?hi20x (by kernel_rfl) (by kernel_rfl) (by kernel_rfl) ?hQ20x ?hy20x (by assumption) ?rest20x
  case hi20x => (simp only [List.getElem?_toArray, List.getElem?_cons_succ, List.getElem?_cons_zero]; rfl)
  case hQ20x => exact fun _ _ _ h => h
  case hy20x => exact Or.inr ⟨by rfl, rfl⟩
  (try simp only [Act.put, List.setIfInBounds_toArray, List.set_cons_zero, List.set_cons_succ])
  refine wpAnyH_take (i := 21) (oi := ?oi21x) (v := undef) ?hi21x (by kernel_rfl) (by kernel_rfl) (by kernel_rfl) ?hQ21x ?hy21x (by assumption) ?rest21x
  case hi21x => (simp only [List.getElem?_toArray, List.getElem?_cons_succ, List.getElem?_cons_zero]; rfl)
  case hQ21x => exact fun _ _ _ h => h
  case hy21x => exact Or.inr ⟨by rfl, rfl⟩
  (try simp only [Act.put, List.setIfInBounds_toArray, List.set_cons_zero, List.set_cons_succ])
  refine wpAnyH_take (i := 22) (oi := ?oi22x) (v := undef) ?hi22x (by kernel_rfl) (by kernel_rfl) (by kernel_rfl) ?hQ22x ?hy22x (by assumption) ?rest22x
  case hi22x => (simp only [List.getElem?_toArray, List.getElem?_cons_succ, List.getElem?_cons_zero]; rfl)
  case hQ22x => exact fun _ _ _ h => h
  case hy22x => exact Or.inr ⟨by rfl, rfl⟩
  (try simp only [Act.put, List.setIfInBounds_toArray, List.set_cons_zero, List.set_cons_succ])
  refine wpAnyH_take (i := 23) (oi := ?oi23x) (v := undef) ?hi23x (by kernel_rfl) (by kernel_rfl) (by kernel_rfl) ?hQ23x ?hy23x (by assumption) ?rest23x
  case hi23x => (simp only [List.getElem?_toArray, List.getElem?_cons_succ, List.getElem?_cons_zero]; rfl)
  case hQ23x => exact fun _ _ _ h => h
  case hy23x => exact Or.inr ⟨by rfl, rfl⟩
  (try simp only [Act.put, List.setIfInBounds_toArray, List.set_cons_zero, List.set_cons_succ])
  refine wpAnyH_take (i := 24) (oi := ?oi24x) (v := undef) ?hi24x (by kernel_rfl) (by kernel_rfl) (by kernel_rfl) ?hQ24x ?hy24x (by assumption) ?rest24x
  case hi24x => (simp only [List.getElem?_toArray, List.getElem?_cons_succ, List.getElem?_cons_zero]; rfl)
  case hQ24x => exact fun _ _ _ h => h
  case hy24x => exact Or.inr ⟨by rfl, rfl⟩
  (try simp only [Act.put, List.setIfInBounds_toArray, List.set_cons_zero, List.set_cons_succ])
  refine wpAnyH_ready (rs := [25]) (by kernel_rfl) (by simp) ?_
  refine AllReadyH.cons (o := ?oi25x) ?ho25x ?hK25x AllReadyH.nil
  case ho25x => (simp only [List.getElem?_toArray, List.getElem?_cons_succ, List.getElem?_cons_zero]; rfl)
  intro KK hKK
  go_simp
  refine hKK.out _ _ (by assumption) (fun _ => ?_)
  clear hKK KK
  (try simp only [Act.put, List.setIfInBounds_toArray, List.set_cons_zero, List.set_cons_succ])
  refine wpAnyH_ready (rs := [26]) (by kernel_rfl) (by simp) ?_
  refine AllReadyH.cons (o := ?oi26x) ?ho26x ?hK26x AllReadyH.nil
  case ho26x => (simp only [List.getElem?_toArray, List.getElem?_cons_succ, List.getElem?_cons_zero]; rfl)
  intro KK hKK
  go_simp
  refine hKK.out _ _ (by assumption) (fun _ => ?_)
  clear hKK KK
  (try simp only [Act.put, List.setIfInBounds_toArray, List.set_cons_zero, List.set_cons_succ])
  refine wpAnyH_take (i := 27) (oi := ?oi27x) (v := undef) ?hi27x (by kernel_rfl) (by kernel_rfl) (by kernel_rfl) ?hQ27x ?hy27x (by assumption) ?rest27x
  case hi27x => (simp only [List.getElem?_toArray, List.getElem?_cons_succ, List.getElem?_cons_zero]; rfl)
  case hQ27x => exact fun _ _ _ h => h
  case hy27x => exact Or.inr ⟨by rfl, rfl⟩
  (try simp only [Act.put, List.setIfInBounds_toArray, List.set_cons_zero, List.set_cons_succ])
  refine wpAnyH_take (i := 28) (oi := ?oi28x) (v := ?v28x) ?hi28x (by kernel_rfl) (by kernel_rfl) (by kernel_rfl) ?hQ28x ?hy28x (by assumption) ?rest28x
  case hi28x => (simp only [List.getElem?_toArray, List.getElem?_cons_succ, List.getElem?_cons_zero]; rfl)
  case hQ28x => exact fun _ _ _ h => h
  case hy28x => exact Or.inl ⟨by rfl, by (intro w hSw; (try dsimp only at hSw); go_simp; try with_reducible rfl)⟩
  (try simp only [Act.put, List.setIfInBounds_toArray, List.set_cons_zero, List.set_cons_succ])
  refine wpAnyH_take (i := 29) (oi := ?oi29x) (v := ?v29x) ?hi29x (by kernel_rfl) (by kernel_rfl) (by kernel_rfl) ?hQ29x ?hy29x (by assumption) ?rest29x
  case hi29x => (simp only [List.getElem?_toArray, List.getElem?_cons_succ, List.getElem?_cons_zero]; rfl)
  case hQ29x => exact fun _ _ _ h => h
  case hy29x => exact Or.inl ⟨by rfl, by (intro w hSw; (try dsimp only at hSw); go_simp; try with_reducible rfl)⟩
  (try simp only [Act.put, List.setIfInBounds_toArray, List.set_cons_zero, List.set_cons_succ])
  refine wpAnyH_done (by kernel_rfl) ?_ _
  go_upto_region 11 with (first
        | (go_at_call 29; ((with_reducible refine (KRN.out _ _ oc).mono ?_); rintro e1 w' ⟨rfl, hk⟩; (try clear oc); have oc := hk; (try clear mg30 mg31 mg32 mg33 mg20 mg21 mg22 mg23 mg10 mg11 mg12 mg13); obtain ⟨⟨bg3, lg3⟩, ⟨bg2, lg2⟩, ⟨bg1, lg1⟩, -⟩ := hB.below hk.2; obtain ⟨mg30, mg31, mg32, mg33⟩ := bg3.quad; obtain ⟨mg20, mg21, mg22, mg23⟩ := bg2.quad; obtain ⟨mg10, mg11, mg12, mg13⟩ := bg1.quad; clear bg3 lg3 bg2 lg2 bg1 lg1; (try clear mz0 mz1); obtain ⟨mz0, mz1⟩ := (hz.below hk.2).two; clear hk))
        | (go_at_call 30; ((with_reducible refine (KRS.out _ _ oc).mono ?_); rintro e1 w' ⟨rfl, hk⟩; (try clear oc); have oc := hk; (try clear mg30 mg31 mg32 mg33 mg20 mg21 mg22 mg23 mg10 mg11 mg12 mg13); obtain ⟨⟨bg3, lg3⟩, ⟨bg2, lg2⟩, ⟨bg1, lg1⟩, -⟩ := hB.below hk.2; obtain ⟨mg30, mg31, mg32, mg33⟩ := bg3.quad; obtain ⟨mg20, mg21, mg22, mg23⟩ := bg2.quad; obtain ⟨mg10, mg11, mg12, mg13⟩ := bg1.quad; clear bg3 lg3 bg2 lg2 bg1 lg1; (try clear mz0 mz1); obtain ⟨mz0, mz1⟩ := (hz.below hk.2).two; clear hk)))
  have hz' := (hz.below oc.2).below (run_new w' s0 s1 s2 s3 _ rfl).2.2
  clear hz
  (try clear mz0 mz1 fz0 fz1)
  have hB' := Bs.new (hB.below oc.2) s0 s1 s2 s3
  have o' := (oo.step oc.2).step (run_new w' s0 s1 s2 s3 _ rfl).2.2
  clear hB oo oc fg30 fg31 fg32 fg33 fg20 fg21 fg22 fg23 fg10 fg11 fg12 fg13 KRN KRS
  (try clear mg30 mg31 mg32 mg33 mg20 mg21 mg22 mg23 mg10 mg11 mg12 mg13)
  generalize (w'.alloc (Obj.cells #[Value.int IntKind.i8 s0, Value.int IntKind.i64 s1, Value.int IntKind.i8 s2, Value.int IntKind.i64 s3] 26)) = W4 at *
  generalize w'.heap.size = g4 at *
  have hB := hB'
  have oo := o'
  clear hB' o'
  have oc := Ok.refl oo.1
  obtain ⟨⟨bg4, lg4⟩, ⟨bg3, lg3⟩, ⟨bg2, lg2⟩, ⟨bg1, lg1⟩, -⟩ := id hB
  obtain ⟨fg40, fg41, fg42, fg43⟩ := bg4.quad
  obtain ⟨fg30, fg31, fg32, fg33⟩ := bg3.quad
  obtain ⟨fg20, fg21, fg22, fg23⟩ := bg2.quad
  obtain ⟨fg10, fg11, fg12, fg13⟩ := bg1.quad
  clear bg4 lg4 bg3 lg3 bg2 lg2 bg1 lg1
  have hz := hz'
  clear hz'
  obtain ⟨fz0, fz1⟩ := hz.two
  go_wp2_with (first
        | (go_at_call 27; ((with_reducible refine (KG.out _ _ oc).mono ?_); rintro e1 w' ⟨rfl, hk⟩; (try clear oc); have oc := hk; (try clear mg40 mg41 mg42 mg43 mg30 mg31 mg32 mg33 mg20 mg21 mg22 mg23 mg10 mg11 mg12 mg13); obtain ⟨⟨bg4, lg4⟩, ⟨bg3, lg3⟩, ⟨bg2, lg2⟩, ⟨bg1, lg1⟩, -⟩ := hB.below hk.2; obtain ⟨mg40, mg41, mg42, mg43⟩ := bg4.quad; obtain ⟨mg30, mg31, mg32, mg33⟩ := bg3.quad; obtain ⟨mg20, mg21, mg22, mg23⟩ := bg2.quad; obtain ⟨mg10, mg11, mg12, mg13⟩ := bg1.quad; clear bg4 lg4 bg3 lg3 bg2 lg2 bg1 lg1; (try clear mz0 mz1); obtain ⟨mz0, mz1⟩ := (hz.below hk.2).two; clear hk))
        | (go_at_call 23; ((with_reducible refine (KL.out _ _ oc).mono ?_); rintro e1 w' ⟨rfl, hk⟩; (try clear oc); have oc := hk; clear hk)))
  go_ret
  exact ⟨rfl, oo.step oc.2⟩

set_option maxRecDepth 100000 in
set_option maxHeartbeats 8000000 in
theorem one_gt_back (i d j e lo hi m n s0 s1 s2 s3 k : Int) (w W : World) (KL : Hid (∀ B X, Ok B X → Calls Tryz.prog 23 #[] X fun x w' => x = .returned (.bool true) ∧ Ok B w')) (KO : Hid (∀ B X, Ok B X → Calls Tryz.prog 26 #[.int .i64 lo, .int .i64 hi] X fun x w' => x = .returned (.tuple #[U4 0 0 0 0, .int .i64 12]) ∧ Ok B w')) (KG5 : Hid (∀ B X, Ok B X → Calls Tryz.prog 27 #[U4 0 0 0 0, .int .i64 12, U4 i d j e, .int .i64 12] X fun x w' => x = .returned (.bool true) ∧ Ok B w')) (KC : Hid (∀ B X, Ok B X → Calls Tryz.prog 7 #[U4 i d j e] X fun x w' => x = .returned (.int .i64 0) ∧ Ok B w')) (KN : Hid (∀ B X, Ok B X → Calls Tryz.prog 24 #[U4 i d j e] X fun x w' => x = .returned (.tuple #[.int .i64 m, .int .i64 n]) ∧ Ok B w')) (KS : Hid (∀ B X, Ok B X → Calls Tryz.prog 25 #[U4 i d j e, .int .i64 k] X fun x w' => x = .returned (.tuple #[U4 s0 s1 s2 s3, .int .i64 0]) ∧ Ok B w')) (KRN : Hid (∀ B X, Ok B X → Calls Tryz.prog 29 #[U4 i d j e] X fun x w' => x = .returned (.tuple #[.int .i64 m, .int .i64 n]) ∧ Ok B w')) (KRS : Hid (∀ B X, Ok B X → Calls Tryz.prog 30 #[U4 i d j e, .int .i64 k] X fun x w' => x = .returned (.tuple #[U4 s0 s1 s2 s3, .int .i64 0]) ∧ Ok B w')) (KG : Hid (∀ B X, Ok B X → Calls Tryz.prog 27 #[U4 s0 s1 s2 s3, .int .i64 0, U4 s0 s1 s2 s3, .int .i64 0] X fun x w' => x = .returned (.bool true) ∧ Ok B w')) (KB : Hid (∀ B X, Ok B X → Calls Tryz.prog 25 #[U4 s0 s1 s2 s3, .int .i64 (-k)] X fun x w' => x = .returned (.tuple #[U4 i d j e, .int .i64 0]) ∧ Ok B w')) (KG2 : Hid (∀ B X, Ok B X → Calls Tryz.prog 27 #[U4 i d j e, .int .i64 0, U4 i d j e, .int .i64 0] X fun x w' => x = .returned (.bool true) ∧ Ok B w')) (hk : (k == -9223372036854775808) = false) (hkw : IntKind.i64.wrap (-k) = -k) (hxy : hi < lo) (ho : Ok w W) :
    Calls Tryz.prog 4 #[U4 i d j e, .int .i64 k, .agg #[.int .i64 lo, .int .i64 hi]] W fun e w' => e = .returned (.bool true) ∧ Ok w w' := by
  have hm1 : (m != m) = false := by simp
  have hm2 : (n != n) = false := by simp
  have hx1 : decide (hi < lo) = true := decide_eq_true hxy
  have hx2 : decide (lo ≤ hi) = false := decide_eq_false (by omega)
  clear hxy
  go_enter Tryz.func4, Tryz.ntmps4
  go_upto_region 1 with fail
  have hB0 := Bs.new (show Bs W [] from trivial) i d j e
  have o0 := ho.step (run_new W i d j e _ rfl).2.2
  have hs0 := (run_new W i d j e _ rfl).2.1
  generalize (W.alloc (Obj.cells #[Value.int IntKind.i8 i, Value.int IntKind.i64 d, Value.int IntKind.i8 j, Value.int IntKind.i64 e] 26)) = W0 at *
  have hB := hB0.below (show Below W0.heap.size W0 (W0.alloc (Obj.cells #[Value.int IntKind.i64 lo, Value.int IntKind.i64 hi] 39)) from by go_grown)
  have oo := o0.step (show Below W0.heap.size W0 (W0.alloc (Obj.cells #[Value.int IntKind.i64 lo, Value.int IntKind.i64 hi] 39)) from by go_grown)
  have hz := ZB.new W0 lo hi
  rw [hs0] at hz
  clear hB0 o0 ho hs0
  generalize (W0.alloc (Obj.cells #[Value.int IntKind.i64 lo, Value.int IntKind.i64 hi] 39)) = W1 at *
  generalize W.heap.size + 1 = gz at *
  generalize W.heap.size = g1 at *
  have oc := Ok.refl oo.1
  obtain ⟨⟨bg1, lg1⟩, -⟩ := id hB
  obtain ⟨fg10, fg11, fg12, fg13⟩ := bg1.quad
  clear bg1 lg1
  obtain ⟨fz0, fz1⟩ := hz.two
  go_upto_region 4 with (first
        | (go_at_call 7; ((with_reducible refine (KC.out _ _ oc).mono ?_); rintro e1 w' ⟨rfl, hk⟩; (try clear oc); have oc := hk; (try clear mg10 mg11 mg12 mg13); obtain ⟨⟨bg1, lg1⟩, -⟩ := hB.below hk.2; obtain ⟨mg10, mg11, mg12, mg13⟩ := bg1.quad; clear bg1 lg1; (try clear mz0 mz1); obtain ⟨mz0, mz1⟩ := (hz.below hk.2).two; clear hk))
        | (go_at_call 24; ((with_reducible refine (KN.out _ _ oc).mono ?_); rintro e1 w' ⟨rfl, hk⟩; (try clear oc); have oc := hk; (try clear mg10 mg11 mg12 mg13); obtain ⟨⟨bg1, lg1⟩, -⟩ := hB.below hk.2; obtain ⟨mg10, mg11, mg12, mg13⟩ := bg1.quad; clear bg1 lg1; (try clear mz0 mz1); obtain ⟨mz0, mz1⟩ := (hz.below hk.2).two; clear hk))
        | (go_at_call 25; ((with_reducible refine (KS.out _ _ oc).mono ?_); rintro e1 w' ⟨rfl, hk⟩; (try clear oc); have oc := hk; (try clear mg10 mg11 mg12 mg13); obtain ⟨⟨bg1, lg1⟩, -⟩ := hB.below hk.2; obtain ⟨mg10, mg11, mg12, mg13⟩ := bg1.quad; clear bg1 lg1; (try clear mz0 mz1); obtain ⟨mz0, mz1⟩ := (hz.below hk.2).two; clear hk)))
  have hz' := (hz.below oc.2).below (run_new w' s0 s1 s2 s3 _ rfl).2.2
  clear hz
  (try clear mz0 mz1 fz0 fz1)
  have hB' := Bs.new (hB.below oc.2) s0 s1 s2 s3
  have o' := (oo.step oc.2).step (run_new w' s0 s1 s2 s3 _ rfl).2.2
  clear hB oo oc fg10 fg11 fg12 fg13 KC KN
  (try clear mg10 mg11 mg12 mg13)
  generalize (w'.alloc (Obj.cells #[Value.int IntKind.i8 s0, Value.int IntKind.i64 s1, Value.int IntKind.i8 s2, Value.int IntKind.i64 s3] 26)) = W2 at *
  generalize w'.heap.size = g2 at *
  have hB := hB'
  have oo := o'
  clear hB' o'
  have oc := Ok.refl oo.1
  obtain ⟨⟨bg2, lg2⟩, ⟨bg1, lg1⟩, -⟩ := id hB
  obtain ⟨fg20, fg21, fg22, fg23⟩ := bg2.quad
  obtain ⟨fg10, fg11, fg12, fg13⟩ := bg1.quad
  clear bg2 lg2 bg1 lg1
  have hz := hz'
  clear hz'
  obtain ⟨fz0, fz1⟩ := hz.two
  go_upto_region 5 with (go_at_call 26; ((with_reducible refine (KO.out _ _ oc).mono ?_); rintro e1 w' ⟨rfl, hk⟩; (try clear oc); have oc := hk; (try clear mg20 mg21 mg22 mg23 mg10 mg11 mg12 mg13); obtain ⟨⟨bg2, lg2⟩, ⟨bg1, lg1⟩, -⟩ := hB.below hk.2; obtain ⟨mg20, mg21, mg22, mg23⟩ := bg2.quad; obtain ⟨mg10, mg11, mg12, mg13⟩ := bg1.quad; clear bg2 lg2 bg1 lg1; (try clear mz0 mz1); obtain ⟨mz0, mz1⟩ := (hz.below hk.2).two; clear hk))
  have hz' := (hz.below oc.2).below (run_new w' 0 0 0 0 _ rfl).2.2
  clear hz
  (try clear mz0 mz1 fz0 fz1)
  have hB' := Bs.new (hB.below oc.2) 0 0 0 0
  have o' := (oo.step oc.2).step (run_new w' 0 0 0 0 _ rfl).2.2
  clear hB oo oc fg20 fg21 fg22 fg23 fg10 fg11 fg12 fg13 KO
  (try clear mg20 mg21 mg22 mg23 mg10 mg11 mg12 mg13)
  generalize (w'.alloc (Obj.cells #[Value.int IntKind.i8 0, Value.int IntKind.i64 0, Value.int IntKind.i8 0, Value.int IntKind.i64 0] 26)) = W3 at *
  generalize w'.heap.size = g3 at *
  have hB := hB'
  have oo := o'
  clear hB' o'
  have oc := Ok.refl oo.1
  obtain ⟨⟨bg3, lg3⟩, ⟨bg2, lg2⟩, ⟨bg1, lg1⟩, -⟩ := id hB
  obtain ⟨fg30, fg31, fg32, fg33⟩ := bg3.quad
  obtain ⟨fg20, fg21, fg22, fg23⟩ := bg2.quad
  obtain ⟨fg10, fg11, fg12, fg13⟩ := bg1.quad
  clear bg3 lg3 bg2 lg2 bg1 lg1
  have hz := hz'
  clear hz'
  obtain ⟨fz0, fz1⟩ := hz.two
  refine wp_region_held_drew (S := (fun x => x.cell? ⟨g3, 0, none⟩ = some (.int .i8 0) ∧ x.cell? ⟨g3, 1, none⟩ = some (.int .i64 0) ∧ x.cell? ⟨g3, 2, none⟩ = some (.int .i8 0) ∧ x.cell? ⟨g3, 3, none⟩ = some (.int .i64 0) ∧ x.cell? ⟨g2, 0, none⟩ = some (.int .i8 s0) ∧ x.cell? ⟨g2, 1, none⟩ = some (.int .i64 s1) ∧ x.cell? ⟨g2, 2, none⟩ = some (.int .i8 s2) ∧ x.cell? ⟨g2, 3, none⟩ = some (.int .i64 s3) ∧ x.cell? ⟨g1, 0, none⟩ = some (.int .i8 i) ∧ x.cell? ⟨g1, 1, none⟩ = some (.int .i64 d) ∧ x.cell? ⟨g1, 2, none⟩ = some (.int .i8 j) ∧ x.cell? ⟨g1, 3, none⟩ = some (.int .i64 e) ∧ x.cell? ⟨gz, 0, none⟩ = some (.int .i64 lo) ∧ x.cell? ⟨gz, 1, none⟩ = some (.int .i64 hi))) (by kernel_rfl) ?_ (fun hHeld => ?_)
  · (try dsimp only)
    go_keep
  refine wpAnyH_take (i := 0) (oi := ?oi0x) (v := ?v0x) ?hi0x (by kernel_rfl) (by kernel_rfl) (by kernel_rfl) ?hQ0x ?hy0x (by assumption) ?rest0x
  case hi0x => (simp only [List.getElem?_toArray, List.getElem?_cons_zero]; rfl)
  case hQ0x => exact fun _ _ _ h => h
  case hy0x => exact Or.inl ⟨by rfl, by (intro w hSw; (try dsimp only at hSw); go_simp; try with_reducible rfl)⟩
  (try simp only [Act.put, List.setIfInBounds_toArray, List.set_cons_zero, List.set_cons_succ])
  refine wpAnyH_take (i := 1) (oi := ?oi1x) (v := ?v1x) ?hi1x (by kernel_rfl) (by kernel_rfl) (by kernel_rfl) ?hQ1x ?hy1x (by assumption) ?rest1x
  case hi1x => (simp only [List.getElem?_toArray, List.getElem?_cons_succ, List.getElem?_cons_zero]; rfl)
  case hQ1x => exact fun _ _ _ h => h
  case hy1x => exact Or.inl ⟨by rfl, by (intro w hSw; (try dsimp only at hSw); go_simp; try with_reducible rfl)⟩
  (try simp only [Act.put, List.setIfInBounds_toArray, List.set_cons_zero, List.set_cons_succ])
  refine wpAnyH_take (i := 2) (oi := ?oi2x) (v := ?v2x) ?hi2x (by kernel_rfl) (by kernel_rfl) (by kernel_rfl) ?hQ2x ?hy2x (by assumption) ?rest2x
  case hi2x => (simp only [List.getElem?_toArray, List.getElem?_cons_succ, List.getElem?_cons_zero]; rfl)
  case hQ2x => exact fun _ _ _ h => h
  case hy2x => exact Or.inl ⟨by rfl, by (intro w hSw; (try dsimp only at hSw); go_simp; try with_reducible rfl)⟩
  (try simp only [Act.put, List.setIfInBounds_toArray, List.set_cons_zero, List.set_cons_succ])
  refine wpAnyH_take (i := 3) (oi := ?oi3x) (v := ?v3x) ?hi3x (by kernel_rfl) (by kernel_rfl) (by kernel_rfl) ?hQ3x ?hy3x (by assumption) ?rest3x
  case hi3x => (simp only [List.getElem?_toArray, List.getElem?_cons_succ, List.getElem?_cons_zero]; rfl)
  case hQ3x => exact fun _ _ _ h => h
  case hy3x => exact Or.inl ⟨by rfl, by (intro w hSw; (try dsimp only at hSw); go_simp; try with_reducible rfl)⟩
  (try simp only [Act.put, List.setIfInBounds_toArray, List.set_cons_zero, List.set_cons_succ])
  refine wpAnyH_take (i := 4) (oi := ?oi4x) (v := ?v4x) ?hi4x (by kernel_rfl) (by kernel_rfl) (by kernel_rfl) ?hQ4x ?hy4x (by assumption) ?rest4x
  case hi4x => (simp only [List.getElem?_toArray, List.getElem?_cons_succ, List.getElem?_cons_zero]; rfl)
  case hQ4x => exact fun _ _ _ h => h
  case hy4x => exact Or.inl ⟨by rfl, by (intro w hSw; (try dsimp only at hSw); go_simp; try with_reducible rfl)⟩
  (try simp only [Act.put, List.setIfInBounds_toArray, List.set_cons_zero, List.set_cons_succ])
  refine wpAnyH_take (i := 5) (oi := ?oi5x) (v := ?v5x) ?hi5x (by kernel_rfl) (by kernel_rfl) (by kernel_rfl) ?hQ5x ?hy5x (by assumption) ?rest5x
  case hi5x => (simp only [List.getElem?_toArray, List.getElem?_cons_succ, List.getElem?_cons_zero]; rfl)
  case hQ5x => exact fun _ _ _ h => h
  case hy5x => exact Or.inl ⟨by rfl, by (intro w hSw; (try dsimp only at hSw); go_simp; try with_reducible rfl)⟩
  (try simp only [Act.put, List.setIfInBounds_toArray, List.set_cons_zero, List.set_cons_succ])
  refine wpAnyH_take (i := 6) (oi := ?oi6x) (v := ?v6x) ?hi6x (by kernel_rfl) (by kernel_rfl) (by kernel_rfl) ?hQ6x ?hy6x (by assumption) ?rest6x
  case hi6x => (simp only [List.getElem?_toArray, List.getElem?_cons_succ, List.getElem?_cons_zero]; rfl)
  case hQ6x => exact fun _ _ _ h => h
  case hy6x => exact Or.inl ⟨by rfl, by (intro w hSw; (try dsimp only at hSw); go_simp; try with_reducible rfl)⟩
  (try simp only [Act.put, List.setIfInBounds_toArray, List.set_cons_zero, List.set_cons_succ])
  refine wpAnyH_take (i := 7) (oi := ?oi7x) (v := ?v7x) ?hi7x (by kernel_rfl) (by kernel_rfl) (by kernel_rfl) ?hQ7x ?hy7x (by assumption) ?rest7x
  case hi7x => (simp only [List.getElem?_toArray, List.getElem?_cons_succ, List.getElem?_cons_zero]; rfl)
  case hQ7x => exact fun _ _ _ h => h
  case hy7x => exact Or.inl ⟨by rfl, by (intro w hSw; (try dsimp only at hSw); go_simp; try with_reducible rfl)⟩
  (try simp only [Act.put, List.setIfInBounds_toArray, List.set_cons_zero, List.set_cons_succ])
  refine wpAnyH_take (i := 8) (oi := ?oi8x) (v := ?v8x) ?hi8x (by kernel_rfl) (by kernel_rfl) (by kernel_rfl) ?hQ8x ?hy8x (by assumption) ?rest8x
  case hi8x => (simp only [List.getElem?_toArray, List.getElem?_cons_succ, List.getElem?_cons_zero]; rfl)
  case hQ8x => exact fun _ _ _ h => h
  case hy8x => exact Or.inl ⟨by rfl, by (intro w hSw; (try dsimp only at hSw); go_simp; try with_reducible rfl)⟩
  (try simp only [Act.put, List.setIfInBounds_toArray, List.set_cons_zero, List.set_cons_succ])
  refine wpAnyH_ready (rs := [9]) (by kernel_rfl) (by simp) ?_
  refine AllReadyH.cons (o := ?oi9x) ?ho9x ?hK9x AllReadyH.nil
  case ho9x => (simp only [List.getElem?_toArray, List.getElem?_cons_succ, List.getElem?_cons_zero]; rfl)
  intro KK hKK
  go_simp
  (first
      | (go_at_call 27; ((with_reducible refine (KG5.out _ _ (oc.step (by go_grown))).mono ?_); rintro e1 w' ⟨rfl, hk⟩; (try clear oc); have oc := hk; (try clear mg30 mg31 mg32 mg33 mg20 mg21 mg22 mg23 mg10 mg11 mg12 mg13); obtain ⟨⟨bg3, lg3⟩, ⟨bg2, lg2⟩, ⟨bg1, lg1⟩, -⟩ := hB.below hk.2; obtain ⟨mg30, mg31, mg32, mg33⟩ := bg3.quad; obtain ⟨mg20, mg21, mg22, mg23⟩ := bg2.quad; obtain ⟨mg10, mg11, mg12, mg13⟩ := bg1.quad; clear bg3 lg3 bg2 lg2 bg1 lg1; (try clear mz0 mz1); obtain ⟨mz0, mz1⟩ := (hz.below hk.2).two; clear hk))
      | (go_at_call 28; ((with_reducible refine (KD.out _ _ (oc.step (by go_grown))).mono ?_); rintro e1 w' ⟨rfl, hk⟩; (try clear oc); have oc := hk; (try clear mg30 mg31 mg32 mg33 mg20 mg21 mg22 mg23 mg10 mg11 mg12 mg13); obtain ⟨⟨bg3, lg3⟩, ⟨bg2, lg2⟩, ⟨bg1, lg1⟩, -⟩ := hB.below hk.2; obtain ⟨mg30, mg31, mg32, mg33⟩ := bg3.quad; obtain ⟨mg20, mg21, mg22, mg23⟩ := bg2.quad; obtain ⟨mg10, mg11, mg12, mg13⟩ := bg1.quad; clear bg3 lg3 bg2 lg2 bg1 lg1; (try clear mz0 mz1); obtain ⟨mz0, mz1⟩ := (hz.below hk.2).two; clear hk)))
  (try go_wp2_with fail)
  refine hKK.out _ _ ?_ (fun hHeld => ?_)
  · (try dsimp only)
    go_keep
  clear hKK KK
  (try simp only [Act.put, List.setIfInBounds_toArray, List.set_cons_zero, List.set_cons_succ])
  refine wpAnyH_take (i := 10) (oi := ?oi10x) (v := ?v10x) ?hi10x (by kernel_rfl) (by kernel_rfl) (by kernel_rfl) ?hQ10x ?hy10x (by assumption) ?rest10x
  case hi10x => (simp only [List.getElem?_toArray, List.getElem?_cons_succ, List.getElem?_cons_zero]; rfl)
  case hQ10x => exact fun _ _ _ h => h
  case hy10x => exact Or.inl ⟨by rfl, by (intro w hSw; (try dsimp only at hSw); go_simp; try with_reducible rfl)⟩
  (try simp only [Act.put, List.setIfInBounds_toArray, List.set_cons_zero, List.set_cons_succ])
  refine wpAnyH_take (i := 11) (oi := ?oi11x) (v := ?v11x) ?hi11x (by kernel_rfl) (by kernel_rfl) (by kernel_rfl) ?hQ11x ?hy11x (by assumption) ?rest11x
  case hi11x => (simp only [List.getElem?_toArray, List.getElem?_cons_succ, List.getElem?_cons_zero]; rfl)
  case hQ11x => exact fun _ _ _ h => h
  case hy11x => exact Or.inl ⟨by rfl, by (intro w hSw; (try dsimp only at hSw); go_simp; try with_reducible rfl)⟩
  (try simp only [Act.put, List.setIfInBounds_toArray, List.set_cons_zero, List.set_cons_succ])
  refine wpAnyH_take (i := 12) (oi := ?oi12x) (v := ?v12x) ?hi12x (by kernel_rfl) (by kernel_rfl) (by kernel_rfl) ?hQ12x ?hy12x (by assumption) ?rest12x
  case hi12x => (simp only [List.getElem?_toArray, List.getElem?_cons_succ, List.getElem?_cons_zero]; rfl)
  case hQ12x => exact fun _ _ _ h => h
  case hy12x => exact Or.inl ⟨by rfl, by (intro w hSw; (try dsimp only at hSw); go_simp; try with_reducible rfl)⟩
  (try simp only [Act.put, List.setIfInBounds_toArray, List.set_cons_zero, List.set_cons_succ])
  refine wpAnyH_take (i := 13) (oi := ?oi13x) (v := ?v13x) ?hi13x (by kernel_rfl) (by kernel_rfl) (by kernel_rfl) ?hQ13x ?hy13x (by assumption) ?rest13x
  case hi13x => (simp only [List.getElem?_toArray, List.getElem?_cons_succ, List.getElem?_cons_zero]; rfl)
  case hQ13x => exact fun _ _ _ h => h
  case hy13x => exact Or.inl ⟨by rfl, by (intro w hSw; (try dsimp only at hSw); go_simp; try with_reducible rfl)⟩
  (try simp only [Act.put, List.setIfInBounds_toArray, List.set_cons_zero, List.set_cons_succ])
  refine wpAnyH_take (i := 14) (oi := ?oi14x) (v := ?v14x) ?hi14x (by kernel_rfl) (by kernel_rfl) (by kernel_rfl) ?hQ14x ?hy14x (by assumption) ?rest14x
  case hi14x => (simp only [List.getElem?_toArray, List.getElem?_cons_succ, List.getElem?_cons_zero]; rfl)
  case hQ14x => exact fun _ _ _ h => h
  case hy14x => exact Or.inl ⟨by rfl, by (intro w hSw; (try dsimp only at hSw); go_simp; try with_reducible rfl)⟩
  (try simp only [Act.put, List.setIfInBounds_toArray, List.set_cons_zero, List.set_cons_succ])
  refine wpAnyH_take (i := 15) (oi := ?oi15x) (v := ?v15x) ?hi15x (by kernel_rfl) (by kernel_rfl) (by kernel_rfl) ?hQ15x ?hy15x (by assumption) ?rest15x
  case hi15x => (simp only [List.getElem?_toArray, List.getElem?_cons_succ, List.getElem?_cons_zero]; rfl)
  case hQ15x => exact fun _ _ _ h => h
  case hy15x => exact Or.inl ⟨by rfl, by (intro w hSw; (try dsimp only at hSw); go_simp; try with_reducible rfl)⟩
  (try simp only [Act.put, List.setIfInBounds_toArray, List.set_cons_zero, List.set_cons_succ])
  refine wpAnyH_take (i := 16) (oi := ?oi16x) (v := ?v16x) ?hi16x (by kernel_rfl) (by kernel_rfl) (by kernel_rfl) ?hQ16x ?hy16x (by assumption) ?rest16x
  case hi16x => (simp only [List.getElem?_toArray, List.getElem?_cons_succ, List.getElem?_cons_zero]; rfl)
  case hQ16x => exact fun _ _ _ h => h
  case hy16x => exact Or.inl ⟨by rfl, by (intro w hSw; (try dsimp only at hSw); go_simp; try with_reducible rfl)⟩
  (try simp only [Act.put, List.setIfInBounds_toArray, List.set_cons_zero, List.set_cons_succ])
  refine wpAnyH_take (i := 17) (oi := ?oi17x) (v := ?v17x) ?hi17x (by kernel_rfl) (by kernel_rfl) (by kernel_rfl) ?hQ17x ?hy17x (by assumption) ?rest17x
  case hi17x => (simp only [List.getElem?_toArray, List.getElem?_cons_succ, List.getElem?_cons_zero]; rfl)
  case hQ17x => exact fun _ _ _ h => h
  case hy17x => exact Or.inl ⟨by rfl, by (intro w hSw; (try dsimp only at hSw); go_simp; try with_reducible rfl)⟩
  (try simp only [Act.put, List.setIfInBounds_toArray, List.set_cons_zero, List.set_cons_succ])
  refine wpAnyH_take (i := 18) (oi := ?oi18x) (v := ?v18x) ?hi18x (by kernel_rfl) (by kernel_rfl) (by kernel_rfl) ?hQ18x ?hy18x (by assumption) ?rest18x
  case hi18x => (simp only [List.getElem?_toArray, List.getElem?_cons_succ, List.getElem?_cons_zero]; rfl)
  case hQ18x => exact fun _ _ _ h => h
  case hy18x => exact Or.inl ⟨by rfl, by (intro w hSw; (try dsimp only at hSw); go_simp; try with_reducible rfl)⟩
  (try simp only [Act.put, List.setIfInBounds_toArray, List.set_cons_zero, List.set_cons_succ])
  refine wpAnyH_take (i := 19) (oi := ?oi19x) (v := undef) ?hi19x (by kernel_rfl) (by kernel_rfl) (by kernel_rfl) ?hQ19x ?hy19x (by assumption) ?rest19x
  case hi19x => (simp only [List.getElem?_toArray, List.getElem?_cons_succ, List.getElem?_cons_zero]; rfl)
  case hQ19x => exact fun _ _ _ h => h
  case hy19x => exact Or.inr ⟨by rfl, rfl⟩
  (try simp only [Act.put, List.setIfInBounds_toArray, List.set_cons_zero, List.set_cons_succ])
  refine wpAnyH_take (i := 20) (oi := ?oi20x) (v := undef) ?hi20x (by kernel_rfl) (by kernel_rfl) (by kernel_rfl) ?hQ20x ?hy20x (by assumption) ?rest20x
  case hi20x => (simp only [List.getElem?_toArray, List.getElem?_cons_succ, List.getElem?_cons_zero]; rfl)
  case hQ20x => exact fun _ _ _ h => h
  case hy20x => exact Or.inr ⟨by rfl, rfl⟩
  (try simp only [Act.put, List.setIfInBounds_toArray, List.set_cons_zero, List.set_cons_succ])
  refine wpAnyH_take (i := 21) (oi := ?oi21x) (v := undef) ?hi21x (by kernel_rfl) (by kernel_rfl) (by kernel_rfl) ?hQ21x ?hy21x (by assumption) ?rest21x
  case hi21x => (simp only [List.getElem?_toArray, List.getElem?_cons_succ, List.getElem?_cons_zero]; rfl)
  case hQ21x => exact fun _ _ _ h => h
  case hy21x => exact Or.inr ⟨by rfl, rfl⟩
  (try simp only [Act.put, List.setIfInBounds_toArray, List.set_cons_zero, List.set_cons_succ])
  refine wpAnyH_take (i := 22) (oi := ?oi22x) (v := undef) ?hi22x (by kernel_rfl) (by kernel_rfl) (by kernel_rfl) ?hQ22x ?hy22x (by assumption) ?rest22x
  case hi22x => (simp only [List.getElem?_toArray, List.getElem?_cons_succ, List.getElem?_cons_zero]; rfl)
  case hQ22x => exact fun _ _ _ h => h
  case hy22x => exact Or.inr ⟨by rfl, rfl⟩
  (try simp only [Act.put, List.setIfInBounds_toArray, List.set_cons_zero, List.set_cons_succ])
  refine wpAnyH_take (i := 23) (oi := ?oi23x) (v := undef) ?hi23x (by kernel_rfl) (by kernel_rfl) (by kernel_rfl) ?hQ23x ?hy23x (by assumption) ?rest23x
  case hi23x => (simp only [List.getElem?_toArray, List.getElem?_cons_succ, List.getElem?_cons_zero]; rfl)
  case hQ23x => exact fun _ _ _ h => h
  case hy23x => exact Or.inr ⟨by rfl, rfl⟩
  (try simp only [Act.put, List.setIfInBounds_toArray, List.set_cons_zero, List.set_cons_succ])
  refine wpAnyH_take (i := 24) (oi := ?oi24x) (v := undef) ?hi24x (by kernel_rfl) (by kernel_rfl) (by kernel_rfl) ?hQ24x ?hy24x (by assumption) ?rest24x
  case hi24x => (simp only [List.getElem?_toArray, List.getElem?_cons_succ, List.getElem?_cons_zero]; rfl)
  case hQ24x => exact fun _ _ _ h => h
  case hy24x => exact Or.inr ⟨by rfl, rfl⟩
  (try simp only [Act.put, List.setIfInBounds_toArray, List.set_cons_zero, List.set_cons_succ])
  refine wpAnyH_ready (rs := [25]) (by kernel_rfl) (by simp) ?_
  refine AllReadyH.cons (o := ?oi25x) ?ho25x ?hK25x AllReadyH.nil
  case ho25x => (simp only [List.getElem?_toArray, List.getElem?_cons_succ, List.getElem?_cons_zero]; rfl)
  intro KK hKK
  go_simp
  refine hKK.out _ _ (by assumption) (fun _ => ?_)
  clear hKK KK
  (try simp only [Act.put, List.setIfInBounds_toArray, List.set_cons_zero, List.set_cons_succ])
  refine wpAnyH_ready (rs := [26]) (by kernel_rfl) (by simp) ?_
  refine AllReadyH.cons (o := ?oi26x) ?ho26x ?hK26x AllReadyH.nil
  case ho26x => (simp only [List.getElem?_toArray, List.getElem?_cons_succ, List.getElem?_cons_zero]; rfl)
  intro KK hKK
  go_simp
  refine hKK.out _ _ (by assumption) (fun _ => ?_)
  clear hKK KK
  (try simp only [Act.put, List.setIfInBounds_toArray, List.set_cons_zero, List.set_cons_succ])
  refine wpAnyH_take (i := 27) (oi := ?oi27x) (v := undef) ?hi27x (by kernel_rfl) (by kernel_rfl) (by kernel_rfl) ?hQ27x ?hy27x (by assumption) ?rest27x
  case hi27x => (simp only [List.getElem?_toArray, List.getElem?_cons_succ, List.getElem?_cons_zero]; rfl)
  case hQ27x => exact fun _ _ _ h => h
  case hy27x => exact Or.inr ⟨by rfl, rfl⟩
  (try simp only [Act.put, List.setIfInBounds_toArray, List.set_cons_zero, List.set_cons_succ])
  refine wpAnyH_take (i := 28) (oi := ?oi28x) (v := ?v28x) ?hi28x (by kernel_rfl) (by kernel_rfl) (by kernel_rfl) ?hQ28x ?hy28x (by assumption) ?rest28x
  case hi28x => (simp only [List.getElem?_toArray, List.getElem?_cons_succ, List.getElem?_cons_zero]; rfl)
  case hQ28x => exact fun _ _ _ h => h
  case hy28x => exact Or.inl ⟨by rfl, by (intro w hSw; (try dsimp only at hSw); go_simp; try with_reducible rfl)⟩
  (try simp only [Act.put, List.setIfInBounds_toArray, List.set_cons_zero, List.set_cons_succ])
  refine wpAnyH_take (i := 29) (oi := ?oi29x) (v := ?v29x) ?hi29x (by kernel_rfl) (by kernel_rfl) (by kernel_rfl) ?hQ29x ?hy29x (by assumption) ?rest29x
  case hi29x => (simp only [List.getElem?_toArray, List.getElem?_cons_succ, List.getElem?_cons_zero]; rfl)
  case hQ29x => exact fun _ _ _ h => h
  case hy29x => exact Or.inl ⟨by rfl, by (intro w hSw; (try dsimp only at hSw); go_simp; try with_reducible rfl)⟩
  (try simp only [Act.put, List.setIfInBounds_toArray, List.set_cons_zero, List.set_cons_succ])
  refine wpAnyH_done (by kernel_rfl) ?_ _
  go_upto_region 11 with (first
        | (go_at_call 29; ((with_reducible refine (KRN.out _ _ oc).mono ?_); rintro e1 w' ⟨rfl, hk⟩; (try clear oc); have oc := hk; (try clear mg30 mg31 mg32 mg33 mg20 mg21 mg22 mg23 mg10 mg11 mg12 mg13); obtain ⟨⟨bg3, lg3⟩, ⟨bg2, lg2⟩, ⟨bg1, lg1⟩, -⟩ := hB.below hk.2; obtain ⟨mg30, mg31, mg32, mg33⟩ := bg3.quad; obtain ⟨mg20, mg21, mg22, mg23⟩ := bg2.quad; obtain ⟨mg10, mg11, mg12, mg13⟩ := bg1.quad; clear bg3 lg3 bg2 lg2 bg1 lg1; (try clear mz0 mz1); obtain ⟨mz0, mz1⟩ := (hz.below hk.2).two; clear hk))
        | (go_at_call 30; ((with_reducible refine (KRS.out _ _ oc).mono ?_); rintro e1 w' ⟨rfl, hk⟩; (try clear oc); have oc := hk; (try clear mg30 mg31 mg32 mg33 mg20 mg21 mg22 mg23 mg10 mg11 mg12 mg13); obtain ⟨⟨bg3, lg3⟩, ⟨bg2, lg2⟩, ⟨bg1, lg1⟩, -⟩ := hB.below hk.2; obtain ⟨mg30, mg31, mg32, mg33⟩ := bg3.quad; obtain ⟨mg20, mg21, mg22, mg23⟩ := bg2.quad; obtain ⟨mg10, mg11, mg12, mg13⟩ := bg1.quad; clear bg3 lg3 bg2 lg2 bg1 lg1; (try clear mz0 mz1); obtain ⟨mz0, mz1⟩ := (hz.below hk.2).two; clear hk)))
  have hz' := (hz.below oc.2).below (run_new w' s0 s1 s2 s3 _ rfl).2.2
  clear hz
  (try clear mz0 mz1 fz0 fz1)
  have hB' := Bs.new (hB.below oc.2) s0 s1 s2 s3
  have o' := (oo.step oc.2).step (run_new w' s0 s1 s2 s3 _ rfl).2.2
  clear hB oo oc fg30 fg31 fg32 fg33 fg20 fg21 fg22 fg23 fg10 fg11 fg12 fg13 KRN KRS
  (try clear mg30 mg31 mg32 mg33 mg20 mg21 mg22 mg23 mg10 mg11 mg12 mg13)
  generalize (w'.alloc (Obj.cells #[Value.int IntKind.i8 s0, Value.int IntKind.i64 s1, Value.int IntKind.i8 s2, Value.int IntKind.i64 s3] 26)) = W4 at *
  generalize w'.heap.size = g4 at *
  have hB := hB'
  have oo := o'
  clear hB' o'
  have oc := Ok.refl oo.1
  obtain ⟨⟨bg4, lg4⟩, ⟨bg3, lg3⟩, ⟨bg2, lg2⟩, ⟨bg1, lg1⟩, -⟩ := id hB
  obtain ⟨fg40, fg41, fg42, fg43⟩ := bg4.quad
  obtain ⟨fg30, fg31, fg32, fg33⟩ := bg3.quad
  obtain ⟨fg20, fg21, fg22, fg23⟩ := bg2.quad
  obtain ⟨fg10, fg11, fg12, fg13⟩ := bg1.quad
  clear bg4 lg4 bg3 lg3 bg2 lg2 bg1 lg1
  have hz := hz'
  clear hz'
  obtain ⟨fz0, fz1⟩ := hz.two
  go_upto_region 16 with (first
        | (go_at_call 27; ((with_reducible refine (KG.out _ _ oc).mono ?_); rintro e1 w' ⟨rfl, hk⟩; (try clear oc); have oc := hk; (try clear mg40 mg41 mg42 mg43 mg30 mg31 mg32 mg33 mg20 mg21 mg22 mg23 mg10 mg11 mg12 mg13); obtain ⟨⟨bg4, lg4⟩, ⟨bg3, lg3⟩, ⟨bg2, lg2⟩, ⟨bg1, lg1⟩, -⟩ := hB.below hk.2; obtain ⟨mg40, mg41, mg42, mg43⟩ := bg4.quad; obtain ⟨mg30, mg31, mg32, mg33⟩ := bg3.quad; obtain ⟨mg20, mg21, mg22, mg23⟩ := bg2.quad; obtain ⟨mg10, mg11, mg12, mg13⟩ := bg1.quad; clear bg4 lg4 bg3 lg3 bg2 lg2 bg1 lg1; (try clear mz0 mz1); obtain ⟨mz0, mz1⟩ := (hz.below hk.2).two; clear hk))
        | (go_at_call 25; ((with_reducible refine (KB.out _ _ oc).mono ?_); rintro e1 w' ⟨rfl, hk⟩; (try clear oc); have oc := hk; (try clear mg40 mg41 mg42 mg43 mg30 mg31 mg32 mg33 mg20 mg21 mg22 mg23 mg10 mg11 mg12 mg13); obtain ⟨⟨bg4, lg4⟩, ⟨bg3, lg3⟩, ⟨bg2, lg2⟩, ⟨bg1, lg1⟩, -⟩ := hB.below hk.2; obtain ⟨mg40, mg41, mg42, mg43⟩ := bg4.quad; obtain ⟨mg30, mg31, mg32, mg33⟩ := bg3.quad; obtain ⟨mg20, mg21, mg22, mg23⟩ := bg2.quad; obtain ⟨mg10, mg11, mg12, mg13⟩ := bg1.quad; clear bg4 lg4 bg3 lg3 bg2 lg2 bg1 lg1; (try clear mz0 mz1); obtain ⟨mz0, mz1⟩ := (hz.below hk.2).two; clear hk)))
  have hz' := (hz.below oc.2).below (run_new w' i d j e _ rfl).2.2
  clear hz
  (try clear mz0 mz1 fz0 fz1)
  have hB' := Bs.new (hB.below oc.2) i d j e
  have o' := (oo.step oc.2).step (run_new w' i d j e _ rfl).2.2
  clear hB oo oc fg40 fg41 fg42 fg43 fg30 fg31 fg32 fg33 fg20 fg21 fg22 fg23 fg10 fg11 fg12 fg13 KG KB
  (try clear mg40 mg41 mg42 mg43 mg30 mg31 mg32 mg33 mg20 mg21 mg22 mg23 mg10 mg11 mg12 mg13)
  generalize (w'.alloc (Obj.cells #[Value.int IntKind.i8 i, Value.int IntKind.i64 d, Value.int IntKind.i8 j, Value.int IntKind.i64 e] 26)) = W5 at *
  generalize w'.heap.size = g5 at *
  have hB := hB'
  have oo := o'
  clear hB' o'
  have oc := Ok.refl oo.1
  obtain ⟨⟨bg5, lg5⟩, ⟨bg4, lg4⟩, ⟨bg3, lg3⟩, ⟨bg2, lg2⟩, ⟨bg1, lg1⟩, -⟩ := id hB
  obtain ⟨fg50, fg51, fg52, fg53⟩ := bg5.quad
  obtain ⟨fg40, fg41, fg42, fg43⟩ := bg4.quad
  obtain ⟨fg30, fg31, fg32, fg33⟩ := bg3.quad
  obtain ⟨fg20, fg21, fg22, fg23⟩ := bg2.quad
  obtain ⟨fg10, fg11, fg12, fg13⟩ := bg1.quad
  clear bg5 lg5 bg4 lg4 bg3 lg3 bg2 lg2 bg1 lg1
  have hz := hz'
  clear hz'
  obtain ⟨fz0, fz1⟩ := hz.two
  go_wp2_with (first
        | (go_at_call 27; ((with_reducible refine (KG2.out _ _ oc).mono ?_); rintro e1 w' ⟨rfl, hk⟩; (try clear oc); have oc := hk; (try clear mg50 mg51 mg52 mg53 mg40 mg41 mg42 mg43 mg30 mg31 mg32 mg33 mg20 mg21 mg22 mg23 mg10 mg11 mg12 mg13); obtain ⟨⟨bg5, lg5⟩, ⟨bg4, lg4⟩, ⟨bg3, lg3⟩, ⟨bg2, lg2⟩, ⟨bg1, lg1⟩, -⟩ := hB.below hk.2; obtain ⟨mg50, mg51, mg52, mg53⟩ := bg5.quad; obtain ⟨mg40, mg41, mg42, mg43⟩ := bg4.quad; obtain ⟨mg30, mg31, mg32, mg33⟩ := bg3.quad; obtain ⟨mg20, mg21, mg22, mg23⟩ := bg2.quad; obtain ⟨mg10, mg11, mg12, mg13⟩ := bg1.quad; clear bg5 lg5 bg4 lg4 bg3 lg3 bg2 lg2 bg1 lg1; (try clear mz0 mz1); obtain ⟨mz0, mz1⟩ := (hz.below hk.2).two; clear hk))
        | (go_at_call 23; ((with_reducible refine (KL.out _ _ oc).mono ?_); rintro e1 w' ⟨rfl, hk⟩; (try clear oc); have oc := hk; clear hk)))
  go_ret
  exact ⟨rfl, oo.step oc.2⟩
end Go.Proofs.YtmbaohjekeiphaaGreatDoor.run9
