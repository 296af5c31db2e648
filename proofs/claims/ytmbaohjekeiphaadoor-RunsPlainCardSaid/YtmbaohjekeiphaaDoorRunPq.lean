/- The law on small runs: RunsPlain, what is made of the plain data. -/
import Derived.Test.YtmbaohjekeiphaaDoorRunPo
import Derived.Test.YtmbaohjekeiphaaDoorLawK
namespace Go.Proofs.YtmbaohjekeiphaaDoor.run9
open Go.RowKit

theorem set4_size (X : World) (g : Nat) (i d j e : Int) : (set4 X g i d j e).heap.size = X.heap.size := by unfold set4; simp
theorem _root_.Go.Proofs.YtmbaohjekeiphaaDoor.BkU.set4_other {w : World} {g g' : Nat} {i d j e : Int} (h : BkU w g i d j e) (hn : g ≠ g') (i' d' j' e' : Int) : BkU (set4 w g' i' d' j' e') g i d j e := (((h.other hn).other hn).other hn).other hn
theorem RB.other {X : World} {g g' : Nat} {a b c : Int} (h : RB X g a b c) (hn : g ≠ g') (v : Int) : RB (X.setCell ⟨g', 2, none⟩ (.int .i16 v)) g a b c := ⟨(heap_setCell_other X _ g _ hn).trans h.1, by have := h.2; simpa using this⟩
theorem _root_.Go.Proofs.YtmbaohjekeiphaaDoor.Ok.store16 {w X : World} (h : Ok w X) {g : Nat} (hg : w.heap.size ≤ g) (v : Int) : Ok w (X.setCell ⟨g, 2, none⟩ (.int .i16 v)) := h.low' (h.2.setCell (p := ⟨g, 2, none⟩) hg _)

set_option maxRecDepth 100000 in
set_option maxHeartbeats 8000000 in
theorem plain_made (x0 x1 x2 p y0 y1 y2 q a0 a1 a2 a3 b0 b1 b2 b3 p0 p1 p2 p3 q0 q1 q2 q3 : Int) (pA pB : Int → Bool) (t m z : Bool) (w W : World) (KL : Hid (∀ B X, Ok B X → Calls Tryd.prog 11 #[] X fun x w' => x = .returned (.bool true) ∧ Ok B w')) (KX : Hid (∀ B X, Ok B X → Calls Tryd.prog 5 #[.agg #[.int .u8 x0, .int .u8 x1, .int .i16 p]] X fun x w' => x = .returned (U4 a0 a1 a2 a3) ∧ (Ok B w' ∧ Below X.heap.size X w'))) (KY : Hid (∀ B X, Ok B X → Calls Tryd.prog 5 #[.agg #[.int .u8 y0, .int .u8 y1, .int .i16 q]] X fun x w' => x = .returned (U4 b0 b1 b2 b3) ∧ (Ok B w' ∧ Below X.heap.size X w')))
    (KA : Hid (∀ n : Int, -100 ≤ n → n ≤ 100 → ∀ B X, Ok B X → Calls Tryd.prog 6 #[U4 a0 a1 a2 a3, .int .i64 n] X fun x w' => x = .returned (.bool (pA n)) ∧ Ok B w')) (KB : Hid (∀ n : Int, -100 ≤ n → n ≤ 100 → ∀ B X, Ok B X → Calls Tryd.prog 6 #[U4 b0 b1 b2 b3, .int .i64 n] X fun x w' => x = .returned (.bool (pB n)) ∧ Ok B w')) (KJ : Hid (∀ B X, Ok B X → Calls Tryd.prog 7 #[U4 a0 a1 a2 a3, U4 b0 b1 b2 b3] X fun x w' => x = .returned (.tuple #[U4 p0 p1 p2 p3, .bool t]) ∧ Ok B w')) (KK : Hid (∀ B X, Ok B X → Calls Tryd.prog 8 #[U4 a0 a1 a2 a3, U4 b0 b1 b2 b3] X fun x w' => x = .returned (.tuple #[U4 q0 q1 q2 q3, .bool m]) ∧ Ok B w')) (KT : Hid (∀ B X, Ok B X → Calls Tryd.prog 9 #[U4 a0 a1 a2 a3, U4 b0 b1 b2 b3] X fun x w' => x = .returned (.bool t) ∧ Ok B w')) (KW : Hid (∀ B X, Ok B X → Calls Tryd.prog 10 #[U4 a0 a1 a2 a3, U4 b0 b1 b2 b3] X fun x w' => x = .returned (.bool z) ∧ Ok B w'))
    (hfin : (anyN (fun n => pA n && pB n) 121 || anyN (fun n => pA n && (pB (n - 1) || pB (n + 1))) 121) = t ∧ anyN (fun n => pA n && pB n) 121 = m ∧ z = !anyN (fun n => pA n && !pB n) 121)
    (ep : x2.tmod 40 = p) (eq : y2.tmod 40 = q) (ho : Ok w W) :
    Calls Tryd.prog 3 #[.agg #[.int .u8 x0, .int .u8 x1, .int .i16 x2], .agg #[.int .u8 y0, .int .u8 y1, .int .i16 y2]] W fun e w' => e = .returned (.bool true) ∧ Ok w w' := by
  go_enter Tryd.func3, Tryd.ntmps3
  go_upto_region 1 with fail
  obtain ⟨r1, s1, hb1⟩ := RB.new W x0 x1 x2 _ rfl
  obtain ⟨r2, s2, hb2⟩ := RB.new (W.alloc (Obj.cells #[Value.int IntKind.u8 x0, Value.int IntKind.u8 x1, Value.int IntKind.i16 x2] 24)) y0 y1 y2 _ rfl
  rw [s1] at r2
  have r1' := r1.below hb2
  have oo := (ho.step hb1).step hb2
  have hsz := ho.2.size
  clear r1 hb1 hb2 s1 s2 ho
  generalize ((W.alloc (Obj.cells #[Value.int IntKind.u8 x0, Value.int IntKind.u8 x1, Value.int IntKind.i16 x2] 24)).alloc (Obj.cells #[Value.int IntKind.u8 y0, Value.int IntKind.u8 y1, Value.int IntKind.i16 y2] 24)) = W1 at *
  have hne : W.heap.size ≠ W.heap.size + 1 := by omega
  obtain ⟨f0, f1, f2⟩ := r1'.cells
  have z0 := r1'.frozen 2
  go_upto_region 2 with fail
  have q1 := r1'.lo p
  have q2 := r2.other hne.symm p
  have o2 := oo.store16 (g := W.heap.size) hsz p
  clear r1' r2 oo f0 f1 f2 z0
  generalize (W1.setCell ⟨W.heap.size, 2, none⟩ (.int .i16 p)) = W2 at *
  obtain ⟨f0, f1, f2⟩ := q2.cells
  have z0 := q2.frozen 2
  go_upto_region 3 with fail
  have r1 := q1.other hne q
  have r2 := q2.lo q
  have oo := o2.store16 (g := W.heap.size + 1) (by omega) q
  clear q1 q2 o2 f0 f1 f2 z0
  generalize (W2.setCell ⟨W.heap.size + 1, 2, none⟩ (.int .i16 q)) = W3 at *
  generalize W.heap.size + 1 = gy at *
  generalize W.heap.size = gx at *
  have oc := Ok.refl oo.1
  have HS : Hid (∀ X, Ok W3 X → (fun x => x.cell? ⟨gx, 0, none⟩ = some (.int .u8 x0) ∧ x.cell? ⟨gx, 1, none⟩ = some (.int .u8 x1) ∧ x.cell? ⟨gx, 2, none⟩ = some (.int .i16 p) ∧ x.cell? ⟨gy, 0, none⟩ = some (.int .u8 y0) ∧ x.cell? ⟨gy, 1, none⟩ = some (.int .u8 y1) ∧ x.cell? ⟨gy, 2, none⟩ = some (.int .i16 q)) X) := Lib.hid (fun X h => by
    obtain ⟨f0, f1, f2⟩ := (r1.below h.2).cells
    obtain ⟨k0, k1, k2⟩ := (r2.below h.2).cells
    exact ⟨f0, f1, f2, k0, k1, k2⟩)
  go_cut [5, 6] (fun v5 v6 wx => ∃ ga gb, v5 = .pointer (some ⟨ga, 0, none⟩) ∧ v6 = .pointer (some ⟨gb, 0, none⟩) ∧ Bs wx [(ga, a0, a1, a2, a3), (gb, b0, b1, b2, b3)] ∧ Ok W3 wx)
  case first =>
    refine wp_region_held_drew (S := (fun x => x.cell? ⟨gx, 0, none⟩ = some (.int .u8 x0) ∧ x.cell? ⟨gx, 1, none⟩ = some (.int .u8 x1) ∧ x.cell? ⟨gx, 2, none⟩ = some (.int .i16 p) ∧ x.cell? ⟨gy, 0, none⟩ = some (.int .u8 y0) ∧ x.cell? ⟨gy, 1, none⟩ = some (.int .u8 y1) ∧ x.cell? ⟨gy, 2, none⟩ = some (.int .i16 q))) (by kernel_rfl) (HS.out _ (oc.step (by go_grown))) (fun hHeld => ?_)
    have ox : Ok W3 W3.drew := oc.step (by go_grown)
    clear oc
    generalize W3.drew = X0 at *
    refine wpAnyH_take (i := 0) (oi := ?oid1) (v := ?vd1) ?hid1 (by kernel_rfl) (by kernel_rfl) (by kernel_rfl) ?hQd1 ?hyd1 (by assumption) ?restd1
    case hid1 => (simp only [List.getElem?_toArray, List.getElem?_cons_zero]; rfl)
    case hQd1 => exact fun _ _ _ h => h
    case hyd1 => exact Or.inl ⟨by rfl, by (intro w hSw; (try dsimp only at hSw); go_simp; try with_reducible rfl)⟩
    (try simp only [Act.put, List.setIfInBounds_toArray, List.set_cons_zero, List.set_cons_succ])
    refine wpAnyH_take (i := 2) (oi := ?oid2) (v := ?vd2) ?hid2 (by kernel_rfl) (by kernel_rfl) (by kernel_rfl) ?hQd2 ?hyd2 (by assumption) ?restd2
    case hid2 => (simp only [List.getElem?_toArray, List.getElem?_cons_succ, List.getElem?_cons_zero]; rfl)
    case hQd2 => exact fun _ _ _ h => h
    case hyd2 => exact Or.inl ⟨by rfl, by (intro w hSw; (try dsimp only at hSw); go_simp; try with_reducible rfl)⟩
    (try simp only [Act.put, List.setIfInBounds_toArray, List.set_cons_zero, List.set_cons_succ])
    refine wpAnyH_ready (rs := [1, 4, 5]) (by kernel_rfl) (by simp) ?_
    refine AllReadyH.cons (o := ?oid3) ?hod3 ?hKd3 (AllReadyH.cons (o := ?oid4) ?hod4 ?hKd4 (AllReadyH.cons (o := ?oid5) ?hod5 ?hKd5 AllReadyH.nil))
    case hod3 => (simp only [List.getElem?_toArray, List.getElem?_cons_succ, List.getElem?_cons_zero]; rfl)
    case hod4 => (simp only [List.getElem?_toArray, List.getElem?_cons_succ, List.getElem?_cons_zero]; rfl)
    case hod5 => (simp only [List.getElem?_toArray, List.getElem?_cons_succ, List.getElem?_cons_zero]; rfl)
    case hKd3 =>
      intro KK hKK
      go_simp
      (go_at_call 5; ((with_reducible refine (KX.out _ _ ox).mono ?_); rintro e1 Xd3 ⟨rfl, hk⟩))
      (try go_wp2_with fail)
      have hbx : Below X0.heap.size X0 Xd3 := hk.2
      have ox2 := hk.1
      refine hKK.out _ _ (HS.out _ ox2) (fun hHeld => ?_)
      clear hKK KK ox hk hbx 
      have ox := ox2
      clear ox2
      (try simp only [Act.put, List.setIfInBounds_toArray, List.set_cons_zero, List.set_cons_succ])
      refine wpAnyH_ready (rs := [3, 4, 5]) (by kernel_rfl) (by simp) ?_
      refine AllReadyH.cons (o := ?oid6) ?hod6 ?hKd6 (AllReadyH.cons (o := ?oid7) ?hod7 ?hKd7 (AllReadyH.cons (o := ?oid8) ?hod8 ?hKd8 AllReadyH.nil))
      case hod6 => (simp only [List.getElem?_toArray, List.getElem?_cons_succ, List.getElem?_cons_zero]; rfl)
      case hod7 => (simp only [List.getElem?_toArray, List.getElem?_cons_succ, List.getElem?_cons_zero]; rfl)
      case hod8 => (simp only [List.getElem?_toArray, List.getElem?_cons_succ, List.getElem?_cons_zero]; rfl)
      case hKd6 =>
        intro KK hKK
        go_simp
        (go_at_call 5; ((with_reducible refine (KY.out _ _ ox).mono ?_); rintro e1 Xd6 ⟨rfl, hk⟩))
        (try go_wp2_with fail)
        have hbx : Below Xd3.heap.size Xd3 Xd6 := hk.2
        have ox2 := hk.1
        refine hKK.out _ _ (HS.out _ ox2) (fun hHeld => ?_)
        clear hKK KK ox hk hbx 
        have ox := ox2
        clear ox2
        (try simp only [Act.put, List.setIfInBounds_toArray, List.set_cons_zero, List.set_cons_succ])
        refine wpAnyH_ready (rs := [4, 5]) (by kernel_rfl) (by simp) ?_
        refine AllReadyH.cons (o := ?oid9) ?hod9 ?hKd9 (AllReadyH.cons (o := ?oid10) ?hod10 ?hKd10 AllReadyH.nil)
        case hod9 => (simp only [List.getElem?_toArray, List.getElem?_cons_succ, List.getElem?_cons_zero]; rfl)
        case hod10 => (simp only [List.getElem?_toArray, List.getElem?_cons_succ, List.getElem?_cons_zero]; rfl)
        case hKd9 =>
          intro KK hKK
          go_simp
          obtain ⟨nga, s9, hbx⟩ := run_new Xd6 0 0 0 0 _ rfl
          have lga : Xd6.heap.size < (Xd6.alloc (Obj.cells #[Value.int IntKind.i8 0, Value.int IntKind.i64 0, Value.int IntKind.i8 0, Value.int IntKind.i64 0] 29)).heap.size := by omega
          have bga : W3.heap.size ≤ Xd6.heap.size := ox.2.size
          have ox2 := ox.step hbx
          refine hKK.out _ _ (HS.out _ ox2) (fun hHeld => ?_)
          clear hKK KK ox s9 hbx 
          generalize (Xd6.alloc (Obj.cells #[Value.int IntKind.i8 0, Value.int IntKind.i64 0, Value.int IntKind.i8 0, Value.int IntKind.i64 0] 29)) = Xd9 at *
          generalize Xd6.heap.size = ga at *
          have ox := ox2
          clear ox2
          (try simp only [Act.put, List.setIfInBounds_toArray, List.set_cons_zero, List.set_cons_succ])
          refine wpAnyH_ready (rs := [5]) (by kernel_rfl) (by simp) ?_
          refine AllReadyH.cons (o := ?oid11) ?hod11 ?hKd11 AllReadyH.nil
          case hod11 => (simp only [List.getElem?_toArray, List.getElem?_cons_succ, List.getElem?_cons_zero]; rfl)
          case hKd11 =>
            intro KK hKK
            go_simp
            obtain ⟨ngb, s9, hbx⟩ := run_new Xd9 0 0 0 0 _ rfl
            have lgb : Xd9.heap.size < (Xd9.alloc (Obj.cells #[Value.int IntKind.i8 0, Value.int IntKind.i64 0, Value.int IntKind.i8 0, Value.int IntKind.i64 0] 29)).heap.size := by omega
            have nga' := nga.below lga hbx
            have lga' := Nat.lt_of_lt_of_le lga hbx.size
            have dgagb : ga ≠ Xd9.heap.size := Nat.ne_of_lt lga
            have dgbga : Xd9.heap.size ≠ ga := (Nat.ne_of_lt lga).symm
            have bgb : W3.heap.size ≤ Xd9.heap.size := ox.2.size
            have ox2 := ox.step hbx
            refine hKK.out _ _ (HS.out _ ox2) (fun hHeld => ?_)
            clear hKK KK ox s9 hbx nga lga
            generalize (Xd9.alloc (Obj.cells #[Value.int IntKind.i8 0, Value.int IntKind.i64 0, Value.int IntKind.i8 0, Value.int IntKind.i64 0] 29)) = Xd11 at *
            generalize Xd9.heap.size = gb at *
            have nga := nga'
            have lga := lga'
            clear nga' lga'
            have ox := ox2
            clear ox2
            (try simp only [Act.put, List.setIfInBounds_toArray, List.set_cons_zero, List.set_cons_succ])
            refine wpAnyH_ready (rs := [6]) (by kernel_rfl) (by simp) ?_
            refine AllReadyH.cons (o := ?oid12) ?hod12 ?hKd12 AllReadyH.nil
            case hod12 => (simp only [List.getElem?_toArray, List.getElem?_cons_succ, List.getElem?_cons_zero]; rfl)
            intro KK hKK
            obtain ⟨cga0, cga1, cga2, cga3⟩ := nga.quad
            have yga0 := nga.frozen 0
            have yga1 := nga.frozen 1
            have yga2 := nga.frozen 2
            have yga3 := nga.frozen 3
            go_simp
            have ox2 : Ok W3 (set4 Xd11 ga a0 a1 a2 a3) := ox.set4 bga a0 a1 a2 a3
            have nga' := nga.store a0 a1 a2 a3
            have ngb' := ngb.set4_other (g' := ga) dgbga a0 a1 a2 a3
            have z9 : (set4 Xd11 ga a0 a1 a2 a3).heap.size = Xd11.heap.size := set4_size _ _ _ _ _ _
            have lga' : ga < (set4 Xd11 ga a0 a1 a2 a3).heap.size := by rw [z9]; exact lga
            have lgb' : gb < (set4 Xd11 ga a0 a1 a2 a3).heap.size := by rw [z9]; exact lgb
            refine hKK.out _ _ (HS.out _ ox2) (fun hHeld => ?_)
            clear hKK KK ox z9 nga lga ngb lgb cga0 cga1 cga2 cga3 yga0 yga1 yga2 yga3
            change wpAnyH _ _ _ _ _ _ _ _ (set4 Xd11 ga a0 a1 a2 a3)
            generalize set4 Xd11 ga a0 a1 a2 a3 = Xd12 at *
            have nga := nga'
            have lga := lga'
            have ngb := ngb'
            have lgb := lgb'
            clear nga' lga' ngb' lgb'
            have ox := ox2
            clear ox2
            (try simp only [Act.put, List.setIfInBounds_toArray, List.set_cons_zero, List.set_cons_succ])
            refine wpAnyH_ready (rs := [7]) (by kernel_rfl) (by simp) ?_
            refine AllReadyH.cons (o := ?oid13) ?hod13 ?hKd13 AllReadyH.nil
            case hod13 => (simp only [List.getElem?_toArray, List.getElem?_cons_succ, List.getElem?_cons_zero]; rfl)
            intro KK hKK
            obtain ⟨cgb0, cgb1, cgb2, cgb3⟩ := ngb.quad
            have ygb0 := ngb.frozen 0
            have ygb1 := ngb.frozen 1
            have ygb2 := ngb.frozen 2
            have ygb3 := ngb.frozen 3
            go_simp
            have ox2 : Ok W3 (set4 Xd12 gb b0 b1 b2 b3) := ox.set4 bgb b0 b1 b2 b3
            have ngb' := ngb.store b0 b1 b2 b3
            have nga' := nga.set4_other (g' := gb) dgagb b0 b1 b2 b3
            have z9 : (set4 Xd12 gb b0 b1 b2 b3).heap.size = Xd12.heap.size := set4_size _ _ _ _ _ _
            have lga' : ga < (set4 Xd12 gb b0 b1 b2 b3).heap.size := by rw [z9]; exact lga
            have lgb' : gb < (set4 Xd12 gb b0 b1 b2 b3).heap.size := by rw [z9]; exact lgb
            refine hKK.out _ _ (HS.out _ ox2) (fun hHeld => ?_)
            clear hKK KK ox z9 nga lga ngb lgb cgb0 cgb1 cgb2 cgb3 ygb0 ygb1 ygb2 ygb3
            change wpAnyH _ _ _ _ _ _ _ _ (set4 Xd12 gb b0 b1 b2 b3)
            generalize set4 Xd12 gb b0 b1 b2 b3 = Xd13 at *
            have nga := nga'
            have lga := lga'
            have ngb := ngb'
            have lgb := lgb'
            clear nga' lga' ngb' lgb'
            have ox := ox2
            clear ox2
            (try simp only [Act.put, List.setIfInBounds_toArray, List.set_cons_zero, List.set_cons_succ])
            refine wpAnyH_done (by kernel_rfl) ?_ _
            go_wp2_with fail
            go_meet
            exact ⟨ga, gb, rfl, rfl, ⟨⟨nga, lga⟩, ⟨ngb, lgb⟩, trivial⟩, ox⟩
        case hKd10 =>
          intro KK hKK
          go_simp
          obtain ⟨ngb, s9, hbx⟩ := run_new Xd6 0 0 0 0 _ rfl
          have lgb : Xd6.heap.size < (Xd6.alloc (Obj.cells #[Value.int IntKind.i8 0, Value.int IntKind.i64 0, Value.int IntKind.i8 0, Value.int IntKind.i64 0] 29)).heap.size := by omega
          have bgb : W3.heap.size ≤ Xd6.heap.size := ox.2.size
          have ox2 := ox.step hbx
          refine hKK.out _ _ (HS.out _ ox2) (fun hHeld => ?_)
          clear hKK KK ox s9 hbx 
          generalize (Xd6.alloc (Obj.cells #[Value.int IntKind.i8 0, Value.int IntKind.i64 0, Value.int IntKind.i8 0, Value.int IntKind.i64 0] 29)) = Xd10 at *
          generalize Xd6.heap.size = gb at *
          have ox := ox2
          clear ox2
          (try simp only [Act.put, List.setIfInBounds_toArray, List.set_cons_zero, List.set_cons_succ])
          refine wpAnyH_ready (rs := [4]) (by kernel_rfl) (by simp) ?_
          refine AllReadyH.cons (o := ?oid14) ?hod14 ?hKd14 AllReadyH.nil
          case hod14 => (simp only [List.getElem?_toArray, List.getElem?_cons_succ, List.getElem?_cons_zero]; rfl)
          case hKd14 =>
            intro KK hKK
            go_simp
            obtain ⟨nga, s9, hbx⟩ := run_new Xd10 0 0 0 0 _ rfl
            have lga : Xd10.heap.size < (Xd10.alloc (Obj.cells #[Value.int IntKind.i8 0, Value.int IntKind.i64 0, Value.int IntKind.i8 0, Value.int IntKind.i64 0] 29)).heap.size := by omega
            have ngb' := ngb.below lgb hbx
            have lgb' := Nat.lt_of_lt_of_le lgb hbx.size
            have dgbga : gb ≠ Xd10.heap.size := Nat.ne_of_lt lgb
            have dgagb : Xd10.heap.size ≠ gb := (Nat.ne_of_lt lgb).symm
            have bga : W3.heap.size ≤ Xd10.heap.size := ox.2.size
            have ox2 := ox.step hbx
            refine hKK.out _ _ (HS.out _ ox2) (fun hHeld => ?_)
            clear hKK KK ox s9 hbx ngb lgb
            generalize (Xd10.alloc (Obj.cells #[Value.int IntKind.i8 0, Value.int IntKind.i64 0, Value.int IntKind.i8 0, Value.int IntKind.i64 0] 29)) = Xd14 at *
            generalize Xd10.heap.size = ga at *
            have ngb := ngb'
            have lgb := lgb'
            clear ngb' lgb'
            have ox := ox2
            clear ox2
            (try simp only [Act.put, List.setIfInBounds_toArray, List.set_cons_zero, List.set_cons_succ])
            refine wpAnyH_ready (rs := [6]) (by kernel_rfl) (by simp) ?_
            refine AllReadyH.cons (o := ?oid15) ?hod15 ?hKd15 AllReadyH.nil
            case hod15 => (simp only [List.getElem?_toArray, List.getElem?_cons_succ, List.getElem?_cons_zero]; rfl)
            intro KK hKK
            obtain ⟨cga0, cga1, cga2, cga3⟩ := nga.quad
            have yga0 := nga.frozen 0
            have yga1 := nga.frozen 1
            have yga2 := nga.frozen 2
            have yga3 := nga.frozen 3
            go_simp
            have ox2 : Ok W3 (set4 Xd14 ga a0 a1 a2 a3) := ox.set4 bga a0 a1 a2 a3
            have nga' := nga.store a0 a1 a2 a3
            have ngb' := ngb.set4_other (g' := ga) dgbga a0 a1 a2 a3
            have z9 : (set4 Xd14 ga a0 a1 a2 a3).heap.size = Xd14.heap.size := set4_size _ _ _ _ _ _
            have lgb' : gb < (set4 Xd14 ga a0 a1 a2 a3).heap.size := by rw [z9]; exact lgb
            have lga' : ga < (set4 Xd14 ga a0 a1 a2 a3).heap.size := by rw [z9]; exact lga
            refine hKK.out _ _ (HS.out _ ox2) (fun hHeld => ?_)
            clear hKK KK ox z9 ngb lgb nga lga cga0 cga1 cga2 cga3 yga0 yga1 yga2 yga3
            change wpAnyH _ _ _ _ _ _ _ _ (set4 Xd14 ga a0 a1 a2 a3)
            generalize set4 Xd14 ga a0 a1 a2 a3 = Xd15 at *
            have ngb := ngb'
            have lgb := lgb'
            have nga := nga'
            have lga := lga'
            clear ngb' lgb' nga' lga'
            have ox := ox2
            clear ox2
            (try simp only [Act.put, List.setIfInBounds_toArray, List.set_cons_zero, List.set_cons_succ])
            refine wpAnyH_ready (rs := [7]) (by kernel_rfl) (by simp) ?_
            refine AllReadyH.cons (o := ?oid16) ?hod16 ?hKd16 AllReadyH.nil
            case hod16 => (simp only [List.getElem?_toArray, List.getElem?_cons_succ, List.getElem?_cons_zero]; rfl)
            intro KK hKK
            obtain ⟨cgb0, cgb1, cgb2, cgb3⟩ := ngb.quad
            have ygb0 := ngb.frozen 0
            have ygb1 := ngb.frozen 1
            have ygb2 := ngb.frozen 2
            have ygb3 := ngb.frozen 3
            go_simp
            have ox2 : Ok W3 (set4 Xd15 gb b0 b1 b2 b3) := ox.set4 bgb b0 b1 b2 b3
            have ngb' := ngb.store b0 b1 b2 b3
            have nga' := nga.set4_other (g' := gb) dgagb b0 b1 b2 b3
            have z9 : (set4 Xd15 gb b0 b1 b2 b3).heap.size = Xd15.heap.size := set4_size _ _ _ _ _ _
            have lgb' : gb < (set4 Xd15 gb b0 b1 b2 b3).heap.size := by rw [z9]; exact lgb
            have lga' : ga < (set4 Xd15 gb b0 b1 b2 b3).heap.size := by rw [z9]; exact lga
            refine hKK.out _ _ (HS.out _ ox2) (fun hHeld => ?_)
            clear hKK KK ox z9 ngb lgb nga lga cgb0 cgb1 cgb2 cgb3 ygb0 ygb1 ygb2 ygb3
            change wpAnyH _ _ _ _ _ _ _ _ (set4 Xd15 gb b0 b1 b2 b3)
            generalize set4 Xd15 gb b0 b1 b2 b3 = Xd16 at *
            have ngb := ngb'
            have lgb := lgb'
            have nga := nga'
            have lga := lga'
            clear ngb' lgb' nga' lga'
            have ox := ox2
            clear ox2
            (try simp only [Act.put, List.setIfInBounds_toArray, List.set_cons_zero, List.set_cons_succ])
            refine wpAnyH_done (by kernel_rfl) ?_ _
            go_wp2_with fail
            go_meet
            exact ⟨ga, gb, rfl, rfl, ⟨⟨nga, lga⟩, ⟨ngb, lgb⟩, trivial⟩, ox⟩
      case hKd7 =>
        intro KK hKK
        go_simp
        obtain ⟨nga, s9, hbx⟩ := run_new Xd3 0 0 0 0 _ rfl
        have lga : Xd3.heap.size < (Xd3.alloc (Obj.cells #[Value.int IntKind.i8 0, Value.int IntKind.i64 0, Value.int IntKind.i8 0, Value.int IntKind.i64 0] 29)).heap.size := by omega
        have bga : W3.heap.size ≤ Xd3.heap.size := ox.2.size
        have ox2 := ox.step hbx
        refine hKK.out _ _ (HS.out _ ox2) (fun hHeld => ?_)
        clear hKK KK ox s9 hbx 
        generalize (Xd3.alloc (Obj.cells #[Value.int IntKind.i8 0, Value.int IntKind.i64 0, Value.int IntKind.i8 0, Value.int IntKind.i64 0] 29)) = Xd7 at *
        generalize Xd3.heap.size = ga at *
        have ox := ox2
        clear ox2
        (try simp only [Act.put, List.setIfInBounds_toArray, List.set_cons_zero, List.set_cons_succ])
        refine wpAnyH_ready (rs := [3, 5]) (by kernel_rfl) (by simp) ?_
        refine AllReadyH.cons (o := ?oid17) ?hod17 ?hKd17 (AllReadyH.cons (o := ?oid18) ?hod18 ?hKd18 AllReadyH.nil)
        case hod17 => (simp only [List.getElem?_toArray, List.getElem?_cons_succ, List.getElem?_cons_zero]; rfl)
        case hod18 => (simp only [List.getElem?_toArray, List.getElem?_cons_succ, List.getElem?_cons_zero]; rfl)
        case hKd17 =>
          intro KK hKK
          go_simp
          (go_at_call 5; ((with_reducible refine (KY.out _ _ ox).mono ?_); rintro e1 Xd17 ⟨rfl, hk⟩))
          (try go_wp2_with fail)
          have hbx : Below Xd7.heap.size Xd7 Xd17 := hk.2
          have nga' := nga.below lga hbx
          have lga' := Nat.lt_of_lt_of_le lga hbx.size
          have ox2 := hk.1
          refine hKK.out _ _ (HS.out _ ox2) (fun hHeld => ?_)
          clear hKK KK ox hk hbx nga lga
          have nga := nga'
          have lga := lga'
          clear nga' lga'
          have ox := ox2
          clear ox2
          (try simp only [Act.put, List.setIfInBounds_toArray, List.set_cons_zero, List.set_cons_succ])
          refine wpAnyH_ready (rs := [5]) (by kernel_rfl) (by simp) ?_
          refine AllReadyH.cons (o := ?oid19) ?hod19 ?hKd19 AllReadyH.nil
          case hod19 => (simp only [List.getElem?_toArray, List.getElem?_cons_succ, List.getElem?_cons_zero]; rfl)
          case hKd19 =>
            intro KK hKK
            go_simp
            obtain ⟨ngb, s9, hbx⟩ := run_new Xd17 0 0 0 0 _ rfl
            have lgb : Xd17.heap.size < (Xd17.alloc (Obj.cells #[Value.int IntKind.i8 0, Value.int IntKind.i64 0, Value.int IntKind.i8 0, Value.int IntKind.i64 0] 29)).heap.size := by omega
            have nga' := nga.below lga hbx
            have lga' := Nat.lt_of_lt_of_le lga hbx.size
            have dgagb : ga ≠ Xd17.heap.size := Nat.ne_of_lt lga
            have dgbga : Xd17.heap.size ≠ ga := (Nat.ne_of_lt lga).symm
            have bgb : W3.heap.size ≤ Xd17.heap.size := ox.2.size
            have ox2 := ox.step hbx
            refine hKK.out _ _ (HS.out _ ox2) (fun hHeld => ?_)
            clear hKK KK ox s9 hbx nga lga
            generalize (Xd17.alloc (Obj.cells #[Value.int IntKind.i8 0, Value.int IntKind.i64 0, Value.int IntKind.i8 0, Value.int IntKind.i64 0] 29)) = Xd19 at *
            generalize Xd17.heap.size = gb at *
            have nga := nga'
            have lga := lga'
            clear nga' lga'
            have ox := ox2
            clear ox2
            (try simp only [Act.put, List.setIfInBounds_toArray, List.set_cons_zero, List.set_cons_succ])
            refine wpAnyH_ready (rs := [6]) (by kernel_rfl) (by simp) ?_
            refine AllReadyH.cons (o := ?oid20) ?hod20 ?hKd20 AllReadyH.nil
            case hod20 => (simp only [List.getElem?_toArray, List.getElem?_cons_succ, List.getElem?_cons_zero]; rfl)
            intro KK hKK
            obtain ⟨cga0, cga1, cga2, cga3⟩ := nga.quad
            have yga0 := nga.frozen 0
            have yga1 := nga.frozen 1
            have yga2 := nga.frozen 2
            have yga3 := nga.frozen 3
            go_simp
            have ox2 : Ok W3 (set4 Xd19 ga a0 a1 a2 a3) := ox.set4 bga a0 a1 a2 a3
            have nga' := nga.store a0 a1 a2 a3
            have ngb' := ngb.set4_other (g' := ga) dgbga a0 a1 a2 a3
            have z9 : (set4 Xd19 ga a0 a1 a2 a3).heap.size = Xd19.heap.size := set4_size _ _ _ _ _ _
            have lga' : ga < (set4 Xd19 ga a0 a1 a2 a3).heap.size := by rw [z9]; exact lga
            have lgb' : gb < (set4 Xd19 ga a0 a1 a2 a3).heap.size := by rw [z9]; exact lgb
            refine hKK.out _ _ (HS.out _ ox2) (fun hHeld => ?_)
            clear hKK KK ox z9 nga lga ngb lgb cga0 cga1 cga2 cga3 yga0 yga1 yga2 yga3
            change wpAnyH _ _ _ _ _ _ _ _ (set4 Xd19 ga a0 a1 a2 a3)
            generalize set4 Xd19 ga a0 a1 a2 a3 = Xd20 at *
            have nga := nga'
            have lga := lga'
            have ngb := ngb'
            have lgb := lgb'
            clear nga' lga' ngb' lgb'
            have ox := ox2
            clear ox2
            (try simp only [Act.put, List.setIfInBounds_toArray, List.set_cons_zero, List.set_cons_succ])
            refine wpAnyH_ready (rs := [7]) (by kernel_rfl) (by simp) ?_
            refine AllReadyH.cons (o := ?oid21) ?hod21 ?hKd21 AllReadyH.nil
            case hod21 => (simp only [List.getElem?_toArray, List.getElem?_cons_succ, List.getElem?_cons_zero]; rfl)
            intro KK hKK
            obtain ⟨cgb0, cgb1, cgb2, cgb3⟩ := ngb.quad
            have ygb0 := ngb.frozen 0
            have ygb1 := ngb.frozen 1
            have ygb2 := ngb.frozen 2
            have ygb3 := ngb.frozen 3
            go_simp
            have ox2 : Ok W3 (set4 Xd20 gb b0 b1 b2 b3) := ox.set4 bgb b0 b1 b2 b3
            have ngb' := ngb.store b0 b1 b2 b3
            have nga' := nga.set4_other (g' := gb) dgagb b0 b1 b2 b3
            have z9 : (set4 Xd20 gb b0 b1 b2 b3).heap.size = Xd20.heap.size := set4_size _ _ _ _ _ _
            have lga' : ga < (set4 Xd20 gb b0 b1 b2 b3).heap.size := by rw [z9]; exact lga
            have lgb' : gb < (set4 Xd20 gb b0 b1 b2 b3).heap.size := by rw [z9]; exact lgb
            refine hKK.out _ _ (HS.out _ ox2) (fun hHeld => ?_)
            clear hKK KK ox z9 nga lga ngb lgb cgb0 cgb1 cgb2 cgb3 ygb0 ygb1 ygb2 ygb3
            change wpAnyH _ _ _ _ _ _ _ _ (set4 Xd20 gb b0 b1 b2 b3)
            generalize set4 Xd20 gb b0 b1 b2 b3 = Xd21 at *
            have nga := nga'
            have lga := lga'
            have ngb := ngb'
            have lgb := lgb'
            clear nga' lga' ngb' lgb'
            have ox := ox2
            clear ox2
            (try simp only [Act.put, List.setIfInBounds_toArray, List.set_cons_zero, List.set_cons_succ])
            refine wpAnyH_done (by kernel_rfl) ?_ _
            go_wp2_with fail
            go_meet
            exact ⟨ga, gb, rfl, rfl, ⟨⟨nga, lga⟩, ⟨ngb, lgb⟩, trivial⟩, ox⟩
        case hKd18 =>
          intro KK hKK
          go_simp
          obtain ⟨ngb, s9, hbx⟩ := run_new Xd7 0 0 0 0 _ rfl
          have lgb : Xd7.heap.size < (Xd7.alloc (Obj.cells #[Value.int IntKind.i8 0, Value.int IntKind.i64 0, Value.int IntKind.i8 0, Value.int IntKind.i64 0] 29)).heap.size := by omega
          have nga' := nga.below lga hbx
          have lga' := Nat.lt_of_lt_of_le lga hbx.size
          have dgagb : ga ≠ Xd7.heap.size := Nat.ne_of_lt lga
          have dgbga : Xd7.heap.size ≠ ga := (Nat.ne_of_lt lga).symm
          have bgb : W3.heap.size ≤ Xd7.heap.size := ox.2.size
          have ox2 := ox.step hbx
          refine hKK.out _ _ (HS.out _ ox2) (fun hHeld => ?_)
          clear hKK KK ox s9 hbx nga lga
          generalize (Xd7.alloc (Obj.cells #[Value.int IntKind.i8 0, Value.int IntKind.i64 0, Value.int IntKind.i8 0, Value.int IntKind.i64 0] 29)) = Xd18 at *
          generalize Xd7.heap.size = gb at *
          have nga := nga'
          have lga := lga'
          clear nga' lga'
          have ox := ox2
          clear ox2
          (try simp only [Act.put, List.setIfInBounds_toArray, List.set_cons_zero, List.set_cons_succ])
          refine wpAnyH_ready (rs := [3]) (by kernel_rfl) (by simp) ?_
          refine AllReadyH.cons (o := ?oid22) ?hod22 ?hKd22 AllReadyH.nil
          case hod22 => (simp only [List.getElem?_toArray, List.getElem?_cons_succ, List.getElem?_cons_zero]; rfl)
          case hKd22 =>
            intro KK hKK
            go_simp
            (go_at_call 5; ((with_reducible refine (KY.out _ _ ox).mono ?_); rintro e1 Xd22 ⟨rfl, hk⟩))
            (try go_wp2_with fail)
            have hbx : Below Xd18.heap.size Xd18 Xd22 := hk.2
            have nga' := nga.below lga hbx
            have lga' := Nat.lt_of_lt_of_le lga hbx.size
            have ngb' := ngb.below lgb hbx
            have lgb' := Nat.lt_of_lt_of_le lgb hbx.size
            have ox2 := hk.1
            refine hKK.out _ _ (HS.out _ ox2) (fun hHeld => ?_)
            clear hKK KK ox hk hbx nga lga ngb lgb
            have nga := nga'
            have lga := lga'
            have ngb := ngb'
            have lgb := lgb'
            clear nga' lga' ngb' lgb'
            have ox := ox2
            clear ox2
            (try simp only [Act.put, List.setIfInBounds_toArray, List.set_cons_zero, List.set_cons_succ])
            refine wpAnyH_ready (rs := [6]) (by kernel_rfl) (by simp) ?_
            refine AllReadyH.cons (o := ?oid23) ?hod23 ?hKd23 AllReadyH.nil
            case hod23 => (simp only [List.getElem?_toArray, List.getElem?_cons_succ, List.getElem?_cons_zero]; rfl)
            intro KK hKK
            obtain ⟨cga0, cga1, cga2, cga3⟩ := nga.quad
            have yga0 := nga.frozen 0
            have yga1 := nga.frozen 1
            have yga2 := nga.frozen 2
            have yga3 := nga.frozen 3
            go_simp
            have ox2 : Ok W3 (set4 Xd22 ga a0 a1 a2 a3) := ox.set4 bga a0 a1 a2 a3
            have nga' := nga.store a0 a1 a2 a3
            have ngb' := ngb.set4_other (g' := ga) dgbga a0 a1 a2 a3
            have z9 : (set4 Xd22 ga a0 a1 a2 a3).heap.size = Xd22.heap.size := set4_size _ _ _ _ _ _
            have lga' : ga < (set4 Xd22 ga a0 a1 a2 a3).heap.size := by rw [z9]; exact lga
            have lgb' : gb < (set4 Xd22 ga a0 a1 a2 a3).heap.size := by rw [z9]; exact lgb
            refine hKK.out _ _ (HS.out _ ox2) (fun hHeld => ?_)
            clear hKK KK ox z9 nga lga ngb lgb cga0 cga1 cga2 cga3 yga0 yga1 yga2 yga3
            change wpAnyH _ _ _ _ _ _ _ _ (set4 Xd22 ga a0 a1 a2 a3)
            generalize set4 Xd22 ga a0 a1 a2 a3 = Xd23 at *
            have nga := nga'
            have lga := lga'
            have ngb := ngb'
            have lgb := lgb'
            clear nga' lga' ngb' lgb'
            have ox := ox2
            clear ox2
            (try simp only [Act.put, List.setIfInBounds_toArray, List.set_cons_zero, List.set_cons_succ])
            refine wpAnyH_ready (rs := [7]) (by kernel_rfl) (by simp) ?_
            refine AllReadyH.cons (o := ?oid24) ?hod24 ?hKd24 AllReadyH.nil
            case hod24 => (simp only [List.getElem?_toArray, List.getElem?_cons_succ, List.getElem?_cons_zero]; rfl)
            intro KK hKK
            obtain ⟨cgb0, cgb1, cgb2, cgb3⟩ := ngb.quad
            have ygb0 := ngb.frozen 0
            have ygb1 := ngb.frozen 1
            have ygb2 := ngb.frozen 2
            have ygb3 := ngb.frozen 3
            go_simp
            have ox2 : Ok W3 (set4 Xd23 gb b0 b1 b2 b3) := ox.set4 bgb b0 b1 b2 b3
            have ngb' := ngb.store b0 b1 b2 b3
            have nga' := nga.set4_other (g' := gb) dgagb b0 b1 b2 b3
            have z9 : (set4 Xd23 gb b0 b1 b2 b3).heap.size = Xd23.heap.size := set4_size _ _ _ _ _ _
            have lga' : ga < (set4 Xd23 gb b0 b1 b2 b3).heap.size := by rw [z9]; exact lga
            have lgb' : gb < (set4 Xd23 gb b0 b1 b2 b3).heap.size := by rw [z9]; exact lgb
            refine hKK.out _ _ (HS.out _ ox2) (fun hHeld => ?_)
            clear hKK KK ox z9 nga lga ngb lgb cgb0 cgb1 cgb2 cgb3 ygb0 ygb1 ygb2 ygb3
            change wpAnyH _ _ _ _ _ _ _ _ (set4 Xd23 gb b0 b1 b2 b3)
            generalize set4 Xd23 gb b0 b1 b2 b3 = Xd24 at *
            have nga := nga'
            have lga := lga'
            have ngb := ngb'
            have lgb := lgb'
            clear nga' lga' ngb' lgb'
            have ox := ox2
            clear ox2
            (try simp only [Act.put, List.setIfInBounds_toArray, List.set_cons_zero, List.set_cons_succ])
            refine wpAnyH_done (by kernel_rfl) ?_ _
            go_wp2_with fail
            go_meet
            exact ⟨ga, gb, rfl, rfl, ⟨⟨nga, lga⟩, ⟨ngb, lgb⟩, trivial⟩, ox⟩
      case hKd8 =>
        intro KK hKK
        go_simp
        obtain ⟨ngb, s9, hbx⟩ := run_new Xd3 0 0 0 0 _ rfl
        have lgb : Xd3.heap.size < (Xd3.alloc (Obj.cells #[Value.int IntKind.i8 0, Value.int IntKind.i64 0, Value.int IntKind.i8 0, Value.int IntKind.i64 0] 29)).heap.size := by omega
        have bgb : W3.heap.size ≤ Xd3.heap.size := ox.2.size
        have ox2 := ox.step hbx
        refine hKK.out _ _ (HS.out _ ox2) (fun hHeld => ?_)
        clear hKK KK ox s9 hbx 
        generalize (Xd3.alloc (Obj.cells #[Value.int IntKind.i8 0, Value.int IntKind.i64 0, Value.int IntKind.i8 0, Value.int IntKind.i64 0] 29)) = Xd8 at *
        generalize Xd3.heap.size = gb at *
        have ox := ox2
        clear ox2
        (try simp only [Act.put, List.setIfInBounds_toArray, List.set_cons_zero, List.set_cons_succ])
        refine wpAnyH_ready (rs := [3, 4]) (by kernel_rfl) (by simp) ?_
        refine AllReadyH.cons (o := ?oid25) ?hod25 ?hKd25 (AllReadyH.cons (o := ?oid26) ?hod26 ?hKd26 AllReadyH.nil)
        case hod25 => (simp only [List.getElem?_toArray, List.getElem?_cons_succ, List.getElem?_cons_zero]; rfl)
        case hod26 => (simp only [List.getElem?_toArray, List.getElem?_cons_succ, List.getElem?_cons_zero]; rfl)
        case hKd25 =>
          intro KK hKK
          go_simp
          (go_at_call 5; ((with_reducible refine (KY.out _ _ ox).mono ?_); rintro e1 Xd25 ⟨rfl, hk⟩))
          (try go_wp2_with fail)
          have hbx : Below Xd8.heap.size Xd8 Xd25 := hk.2
          have ngb' := ngb.below lgb hbx
          have lgb' := Nat.lt_of_lt_of_le lgb hbx.size
          have ox2 := hk.1
          refine hKK.out _ _ (HS.out _ ox2) (fun hHeld => ?_)
          clear hKK KK ox hk hbx ngb lgb
          have ngb := ngb'
          have lgb := lgb'
          clear ngb' lgb'
          have ox := ox2
          clear ox2
          (try simp only [Act.put, List.setIfInBounds_toArray, List.set_cons_zero, List.set_cons_succ])
          refine wpAnyH_ready (rs := [4]) (by kernel_rfl) (by simp) ?_
          refine AllReadyH.cons (o := ?oid27) ?hod27 ?hKd27 AllReadyH.nil
          case hod27 => (simp only [List.getElem?_toArray, List.getElem?_cons_succ, List.getElem?_cons_zero]; rfl)
          case hKd27 =>
            intro KK hKK
            go_simp
            obtain ⟨nga, s9, hbx⟩ := run_new Xd25 0 0 0 0 _ rfl
            have lga : Xd25.heap.size < (Xd25.alloc (Obj.cells #[Value.int IntKind.i8 0, Value.int IntKind.i64 0, Value.int IntKind.i8 0, Value.int IntKind.i64 0] 29)).heap.size := by omega
            have ngb' := ngb.below lgb hbx
            have lgb' := Nat.lt_of_lt_of_le lgb hbx.size
            have dgbga : gb ≠ Xd25.heap.size := Nat.ne_of_lt lgb
            have dgagb : Xd25.heap.size ≠ gb := (Nat.ne_of_lt lgb).symm
            have bga : W3.heap.size ≤ Xd25.heap.size := ox.2.size
            have ox2 := ox.step hbx
            refine hKK.out _ _ (HS.out _ ox2) (fun hHeld => ?_)
            clear hKK KK ox s9 hbx ngb lgb
            generalize (Xd25.alloc (Obj.cells #[Value.int IntKind.i8 0, Value.int IntKind.i64 0, Value.int IntKind.i8 0, Value.int IntKind.i64 0] 29)) = Xd27 at *
            generalize Xd25.heap.size = ga at *
            have ngb := ngb'
            have lgb := lgb'
            clear ngb' lgb'
            have ox := ox2
            clear ox2
            (try simp only [Act.put, List.setIfInBounds_toArray, List.set_cons_zero, List.set_cons_succ])
            refine wpAnyH_ready (rs := [6]) (by kernel_rfl) (by simp) ?_
            refine AllReadyH.cons (o := ?oid28) ?hod28 ?hKd28 AllReadyH.nil
            case hod28 => (simp only [List.getElem?_toArray, List.getElem?_cons_succ, List.getElem?_cons_zero]; rfl)
            intro KK hKK
            obtain ⟨cga0, cga1, cga2, cga3⟩ := nga.quad
            have yga0 := nga.frozen 0
            have yga1 := nga.frozen 1
            have yga2 := nga.frozen 2
            have yga3 := nga.frozen 3
            go_simp
            have ox2 : Ok W3 (set4 Xd27 ga a0 a1 a2 a3) := ox.set4 bga a0 a1 a2 a3
            have nga' := nga.store a0 a1 a2 a3
            have ngb' := ngb.set4_other (g' := ga) dgbga a0 a1 a2 a3
            have z9 : (set4 Xd27 ga a0 a1 a2 a3).heap.size = Xd27.heap.size := set4_size _ _ _ _ _ _
            have lgb' : gb < (set4 Xd27 ga a0 a1 a2 a3).heap.size := by rw [z9]; exact lgb
            have lga' : ga < (set4 Xd27 ga a0 a1 a2 a3).heap.size := by rw [z9]; exact lga
            refine hKK.out _ _ (HS.out _ ox2) (fun hHeld => ?_)
            clear hKK KK ox z9 ngb lgb nga lga cga0 cga1 cga2 cga3 yga0 yga1 yga2 yga3
            change wpAnyH _ _ _ _ _ _ _ _ (set4 Xd27 ga a0 a1 a2 a3)
            generalize set4 Xd27 ga a0 a1 a2 a3 = Xd28 at *
            have ngb := ngb'
            have lgb := lgb'
            have nga := nga'
            have lga := lga'
            clear ngb' lgb' nga' lga'
            have ox := ox2
            clear ox2
            (try simp only [Act.put, List.setIfInBounds_toArray, List.set_cons_zero, List.set_cons_succ])
            refine wpAnyH_ready (rs := [7]) (by kernel_rfl) (by simp) ?_
            refine AllReadyH.cons (o := ?oid29) ?hod29 ?hKd29 AllReadyH.nil
            case hod29 => (simp only [List.getElem?_toArray, List.getElem?_cons_succ, List.getElem?_cons_zero]; rfl)
            intro KK hKK
            obtain ⟨cgb0, cgb1, cgb2, cgb3⟩ := ngb.quad
            have ygb0 := ngb.frozen 0
            have ygb1 := ngb.frozen 1
            have ygb2 := ngb.frozen 2
            have ygb3 := ngb.frozen 3
            go_simp
            have ox2 : Ok W3 (set4 Xd28 gb b0 b1 b2 b3) := ox.set4 bgb b0 b1 b2 b3
            have ngb' := ngb.store b0 b1 b2 b3
            have nga' := nga.set4_other (g' := gb) dgagb b0 b1 b2 b3
            have z9 : (set4 Xd28 gb b0 b1 b2 b3).heap.size = Xd28.heap.size := set4_size _ _ _ _ _ _
            have lgb' : gb < (set4 Xd28 gb b0 b1 b2 b3).heap.size := by rw [z9]; exact lgb
            have lga' : ga < (set4 Xd28 gb b0 b1 b2 b3).heap.size := by rw [z9]; exact lga
            refine hKK.out _ _ (HS.out _ ox2) (fun hHeld => ?_)
            clear hKK KK ox z9 ngb lgb nga lga cgb0 cgb1 cgb2 cgb3 ygb0 ygb1 ygb2 ygb3
            change wpAnyH _ _ _ _ _ _ _ _ (set4 Xd28 gb b0 b1 b2 b3)
            generalize set4 Xd28 gb b0 b1 b2 b3 = Xd29 at *
            have ngb := ngb'
            have lgb := lgb'
            have nga := nga'
            have lga := lga'
            clear ngb' lgb' nga' lga'
            have ox := ox2
            clear ox2
            (try simp only [Act.put, List.setIfInBounds_toArray, List.set_cons_zero, List.set_cons_succ])
            refine wpAnyH_done (by kernel_rfl) ?_ _
            go_wp2_with fail
            go_meet
            exact ⟨ga, gb, rfl, rfl, ⟨⟨nga, lga⟩, ⟨ngb, lgb⟩, trivial⟩, ox⟩
        case hKd26 =>
          intro KK hKK
          go_simp
          obtain ⟨nga, s9, hbx⟩ := run_new Xd8 0 0 0 0 _ rfl
          have lga : Xd8.heap.size < (Xd8.alloc (Obj.cells #[Value.int IntKind.i8 0, Value.int IntKind.i64 0, Value.int IntKind.i8 0, Value.int IntKind.i64 0] 29)).heap.size := by omega
          have ngb' := ngb.below lgb hbx
          have lgb' := Nat.lt_of_lt_of_le lgb hbx.size
          have dgbga : gb ≠ Xd8.heap.size := Nat.ne_of_lt lgb
          have dgagb : Xd8.heap.size ≠ gb := (Nat.ne_of_lt lgb).symm
          have bga : W3.heap.size ≤ Xd8.heap.size := ox.2.size
          have ox2 := ox.step hbx
          refine hKK.out _ _ (HS.out _ ox2) (fun hHeld => ?_)
          clear hKK KK ox s9 hbx ngb lgb
          generalize (Xd8.alloc (Obj.cells #[Value.int IntKind.i8 0, Value.int IntKind.i64 0, Value.int IntKind.i8 0, Value.int IntKind.i64 0] 29)) = Xd26 at *
          generalize Xd8.heap.size = ga at *
          have ngb := ngb'
          have lgb := lgb'
          clear ngb' lgb'
          have ox := ox2
          clear ox2
          (try simp only [Act.put, List.setIfInBounds_toArray, List.set_cons_zero, List.set_cons_succ])
          refine wpAnyH_ready (rs := [3]) (by kernel_rfl) (by simp) ?_
          refine AllReadyH.cons (o := ?oid30) ?hod30 ?hKd30 AllReadyH.nil
          case hod30 => (simp only [List.getElem?_toArray, List.getElem?_cons_succ, List.getElem?_cons_zero]; rfl)
          case hKd30 =>
            intro KK hKK
            go_simp
            (go_at_call 5; ((with_reducible refine (KY.out _ _ ox).mono ?_); rintro e1 Xd30 ⟨rfl, hk⟩))
            (try go_wp2_with fail)
            have hbx : Below Xd26.heap.size Xd26 Xd30 := hk.2
            have ngb' := ngb.below lgb hbx
            have lgb' := Nat.lt_of_lt_of_le lgb hbx.size
            have nga' := nga.below lga hbx
            have lga' := Nat.lt_of_lt_of_le lga hbx.size
            have ox2 := hk.1
            refine hKK.out _ _ (HS.out _ ox2) (fun hHeld => ?_)
            clear hKK KK ox hk hbx ngb lgb nga lga
            have ngb := ngb'
            have lgb := lgb'
            have nga := nga'
            have lga := lga'
            clear ngb' lgb' nga' lga'
            have ox := ox2
            clear ox2
            (try simp only [Act.put, List.setIfInBounds_toArray, List.set_cons_zero, List.set_cons_succ])
            refine wpAnyH_ready (rs := [6]) (by kernel_rfl) (by simp) ?_
            refine AllReadyH.cons (o := ?oid31) ?hod31 ?hKd31 AllReadyH.nil
            case hod31 => (simp only [List.getElem?_toArray, List.getElem?_cons_succ, List.getElem?_cons_zero]; rfl)
            intro KK hKK
            obtain ⟨cga0, cga1, cga2, cga3⟩ := nga.quad
            have yga0 := nga.frozen 0
            have yga1 := nga.frozen 1
            have yga2 := nga.frozen 2
            have yga3 := nga.frozen 3
            go_simp
            have ox2 : Ok W3 (set4 Xd30 ga a0 a1 a2 a3) := ox.set4 bga a0 a1 a2 a3
            have nga' := nga.store a0 a1 a2 a3
            have ngb' := ngb.set4_other (g' := ga) dgbga a0 a1 a2 a3
            have z9 : (set4 Xd30 ga a0 a1 a2 a3).heap.size = Xd30.heap.size := set4_size _ _ _ _ _ _
            have lgb' : gb < (set4 Xd30 ga a0 a1 a2 a3).heap.size := by rw [z9]; exact lgb
            have lga' : ga < (set4 Xd30 ga a0 a1 a2 a3).heap.size := by rw [z9]; exact lga
            refine hKK.out _ _ (HS.out _ ox2) (fun hHeld => ?_)
            clear hKK KK ox z9 ngb lgb nga lga cga0 cga1 cga2 cga3 yga0 yga1 yga2 yga3
            change wpAnyH _ _ _ _ _ _ _ _ (set4 Xd30 ga a0 a1 a2 a3)
            generalize set4 Xd30 ga a0 a1 a2 a3 = Xd31 at *
            have ngb := ngb'
            have lgb := lgb'
            have nga := nga'
            have lga := lga'
            clear ngb' lgb' nga' lga'
            have ox := ox2
            clear ox2
            (try simp only [Act.put, List.setIfInBounds_toArray, List.set_cons_zero, List.set_cons_succ])
            refine wpAnyH_ready (rs := [7]) (by kernel_rfl) (by simp) ?_
            refine AllReadyH.cons (o := ?oid32) ?hod32 ?hKd32 AllReadyH.nil
            case hod32 => (simp only [List.getElem?_toArray, List.getElem?_cons_succ, List.getElem?_cons_zero]; rfl)
            intro KK hKK
            obtain ⟨cgb0, cgb1, cgb2, cgb3⟩ := ngb.quad
            have ygb0 := ngb.frozen 0
            have ygb1 := ngb.frozen 1
            have ygb2 := ngb.frozen 2
            have ygb3 := ngb.frozen 3
            go_simp
            have ox2 : Ok W3 (set4 Xd31 gb b0 b1 b2 b3) := ox.set4 bgb b0 b1 b2 b3
            have ngb' := ngb.store b0 b1 b2 b3
            have nga' := nga.set4_other (g' := gb) dgagb b0 b1 b2 b3
            have z9 : (set4 Xd31 gb b0 b1 b2 b3).heap.size = Xd31.heap.size := set4_size _ _ _ _ _ _
            have lgb' : gb < (set4 Xd31 gb b0 b1 b2 b3).heap.size := by rw [z9]; exact lgb
            have lga' : ga < (set4 Xd31 gb b0 b1 b2 b3).heap.size := by rw [z9]; exact lga
            refine hKK.out _ _ (HS.out _ ox2) (fun hHeld => ?_)
            clear hKK KK ox z9 ngb lgb nga lga cgb0 cgb1 cgb2 cgb3 ygb0 ygb1 ygb2 ygb3
            change wpAnyH _ _ _ _ _ _ _ _ (set4 Xd31 gb b0 b1 b2 b3)
            generalize set4 Xd31 gb b0 b1 b2 b3 = Xd32 at *
            have ngb := ngb'
            have lgb := lgb'
            have nga := nga'
            have lga := lga'
            clear ngb' lgb' nga' lga'
            have ox := ox2
            clear ox2
            (try simp only [Act.put, List.setIfInBounds_toArray, List.set_cons_zero, List.set_cons_succ])
            refine wpAnyH_done (by kernel_rfl) ?_ _
            go_wp2_with fail
            go_meet
            exact ⟨ga, gb, rfl, rfl, ⟨⟨nga, lga⟩, ⟨ngb, lgb⟩, trivial⟩, ox⟩
    case hKd4 =>
      intro KK hKK
      go_simp
      obtain ⟨nga, s9, hbx⟩ := run_new X0 0 0 0 0 _ rfl
      have lga : X0.heap.size < (X0.alloc (Obj.cells #[Value.int IntKind.i8 0, Value.int IntKind.i64 0, Value.int IntKind.i8 0, Value.int IntKind.i64 0] 29)).heap.size := by omega
      have bga : W3.heap.size ≤ X0.heap.size := ox.2.size
      have ox2 := ox.step hbx
      refine hKK.out _ _ (HS.out _ ox2) (fun hHeld => ?_)
      clear hKK KK ox s9 hbx 
      generalize (X0.alloc (Obj.cells #[Value.int IntKind.i8 0, Value.int IntKind.i64 0, Value.int IntKind.i8 0, Value.int IntKind.i64 0] 29)) = Xd4 at *
      generalize X0.heap.size = ga at *
      have ox := ox2
      clear ox2
      (try simp only [Act.put, List.setIfInBounds_toArray, List.set_cons_zero, List.set_cons_succ])
      refine wpAnyH_ready (rs := [1, 5]) (by kernel_rfl) (by simp) ?_
      refine AllReadyH.cons (o := ?oid33) ?hod33 ?hKd33 (AllReadyH.cons (o := ?oid34) ?hod34 ?hKd34 AllReadyH.nil)
      case hod33 => (simp only [List.getElem?_toArray, List.getElem?_cons_succ, List.getElem?_cons_zero]; rfl)
      case hod34 => (simp only [List.getElem?_toArray, List.getElem?_cons_succ, List.getElem?_cons_zero]; rfl)
      case hKd33 =>
        intro KK hKK
        go_simp
        (go_at_call 5; ((with_reducible refine (KX.out _ _ ox).mono ?_); rintro e1 Xd33 ⟨rfl, hk⟩))
        (try go_wp2_with fail)
        have hbx : Below Xd4.heap.size Xd4 Xd33 := hk.2
        have nga' := nga.below lga hbx
        have lga' := Nat.lt_of_lt_of_le lga hbx.size
        have ox2 := hk.1
        refine hKK.out _ _ (HS.out _ ox2) (fun hHeld => ?_)
        clear hKK KK ox hk hbx nga lga
        have nga := nga'
        have lga := lga'
        clear nga' lga'
        have ox := ox2
        clear ox2
        (try simp only [Act.put, List.setIfInBounds_toArray, List.set_cons_zero, List.set_cons_succ])
        refine wpAnyH_ready (rs := [3, 5]) (by kernel_rfl) (by simp) ?_
        refine AllReadyH.cons (o := ?oid35) ?hod35 ?hKd35 (AllReadyH.cons (o := ?oid36) ?hod36 ?hKd36 AllReadyH.nil)
        case hod35 => (simp only [List.getElem?_toArray, List.getElem?_cons_succ, List.getElem?_cons_zero]; rfl)
        case hod36 => (simp only [List.getElem?_toArray, List.getElem?_cons_succ, List.getElem?_cons_zero]; rfl)
        case hKd35 =>
          intro KK hKK
          go_simp
          (go_at_call 5; ((with_reducible refine (KY.out _ _ ox).mono ?_); rintro e1 Xd35 ⟨rfl, hk⟩))
          (try go_wp2_with fail)
          have hbx : Below Xd33.heap.size Xd33 Xd35 := hk.2
          have nga' := nga.below lga hbx
          have lga' := Nat.lt_of_lt_of_le lga hbx.size
          have ox2 := hk.1
          refine hKK.out _ _ (HS.out _ ox2) (fun hHeld => ?_)
          clear hKK KK ox hk hbx nga lga
          have nga := nga'
          have lga := lga'
          clear nga' lga'
          have ox := ox2
          clear ox2
          (try simp only [Act.put, List.setIfInBounds_toArray, List.set_cons_zero, List.set_cons_succ])
          refine wpAnyH_ready (rs := [5]) (by kernel_rfl) (by simp) ?_
          refine AllReadyH.cons (o := ?oid37) ?hod37 ?hKd37 AllReadyH.nil
          case hod37 => (simp only [List.getElem?_toArray, List.getElem?_cons_succ, List.getElem?_cons_zero]; rfl)
          case hKd37 =>
            intro KK hKK
            go_simp
            obtain ⟨ngb, s9, hbx⟩ := run_new Xd35 0 0 0 0 _ rfl
            have lgb : Xd35.heap.size < (Xd35.alloc (Obj.cells #[Value.int IntKind.i8 0, Value.int IntKind.i64 0, Value.int IntKind.i8 0, Value.int IntKind.i64 0] 29)).heap.size := by omega
            have nga' := nga.below lga hbx
            have lga' := Nat.lt_of_lt_of_le lga hbx.size
            have dgagb : ga ≠ Xd35.heap.size := Nat.ne_of_lt lga
            have dgbga : Xd35.heap.size ≠ ga := (Nat.ne_of_lt lga).symm
            have bgb : W3.heap.size ≤ Xd35.heap.size := ox.2.size
            have ox2 := ox.step hbx
            refine hKK.out _ _ (HS.out _ ox2) (fun hHeld => ?_)
            clear hKK KK ox s9 hbx nga lga
            generalize (Xd35.alloc (Obj.cells #[Value.int IntKind.i8 0, Value.int IntKind.i64 0, Value.int IntKind.i8 0, Value.int IntKind.i64 0] 29)) = Xd37 at *
            generalize Xd35.heap.size = gb at *
            have nga := nga'
            have lga := lga'
            clear nga' lga'
            have ox := ox2
            clear ox2
            (try simp only [Act.put, List.setIfInBounds_toArray, List.set_cons_zero, List.set_cons_succ])
            refine wpAnyH_ready (rs := [6]) (by kernel_rfl) (by simp) ?_
            refine AllReadyH.cons (o := ?oid38) ?hod38 ?hKd38 AllReadyH.nil
            case hod38 => (simp only [List.getElem?_toArray, List.getElem?_cons_succ, List.getElem?_cons_zero]; rfl)
            intro KK hKK
            obtain ⟨cga0, cga1, cga2, cga3⟩ := nga.quad
            have yga0 := nga.frozen 0
            have yga1 := nga.frozen 1
            have yga2 := nga.frozen 2
            have yga3 := nga.frozen 3
            go_simp
            have ox2 : Ok W3 (set4 Xd37 ga a0 a1 a2 a3) := ox.set4 bga a0 a1 a2 a3
            have nga' := nga.store a0 a1 a2 a3
            have ngb' := ngb.set4_other (g' := ga) dgbga a0 a1 a2 a3
            have z9 : (set4 Xd37 ga a0 a1 a2 a3).heap.size = Xd37.heap.size := set4_size _ _ _ _ _ _
            have lga' : ga < (set4 Xd37 ga a0 a1 a2 a3).heap.size := by rw [z9]; exact lga
            have lgb' : gb < (set4 Xd37 ga a0 a1 a2 a3).heap.size := by rw [z9]; exact lgb
            refine hKK.out _ _ (HS.out _ ox2) (fun hHeld => ?_)
            clear hKK KK ox z9 nga lga ngb lgb cga0 cga1 cga2 cga3 yga0 yga1 yga2 yga3
            change wpAnyH _ _ _ _ _ _ _ _ (set4 Xd37 ga a0 a1 a2 a3)
            generalize set4 Xd37 ga a0 a1 a2 a3 = Xd38 at *
            have nga := nga'
            have lga := lga'
            have ngb := ngb'
            have lgb := lgb'
            clear nga' lga' ngb' lgb'
            have ox := ox2
            clear ox2
            (try simp only [Act.put, List.setIfInBounds_toArray, List.set_cons_zero, List.set_cons_succ])
            refine wpAnyH_ready (rs := [7]) (by kernel_rfl) (by simp) ?_
            refine AllReadyH.cons (o := ?oid39) ?hod39 ?hKd39 AllReadyH.nil
            case hod39 => (simp only [List.getElem?_toArray, List.getElem?_cons_succ, List.getElem?_cons_zero]; rfl)
            intro KK hKK
            obtain ⟨cgb0, cgb1, cgb2, cgb3⟩ := ngb.quad
            have ygb0 := ngb.frozen 0
            have ygb1 := ngb.frozen 1
            have ygb2 := ngb.frozen 2
            have ygb3 := ngb.frozen 3
            go_simp
            have ox2 : Ok W3 (set4 Xd38 gb b0 b1 b2 b3) := ox.set4 bgb b0 b1 b2 b3
            have ngb' := ngb.store b0 b1 b2 b3
            have nga' := nga.set4_other (g' := gb) dgagb b0 b1 b2 b3
            have z9 : (set4 Xd38 gb b0 b1 b2 b3).heap.size = Xd38.heap.size := set4_size _ _ _ _ _ _
            have lga' : ga < (set4 Xd38 gb b0 b1 b2 b3).heap.size := by rw [z9]; exact lga
            have lgb' : gb < (set4 Xd38 gb b0 b1 b2 b3).heap.size := by rw [z9]; exact lgb
            refine hKK.out _ _ (HS.out _ ox2) (fun hHeld => ?_)
            clear hKK KK ox z9 nga lga ngb lgb cgb0 cgb1 cgb2 cgb3 ygb0 ygb1 ygb2 ygb3
            change wpAnyH _ _ _ _ _ _ _ _ (set4 Xd38 gb b0 b1 b2 b3)
            generalize set4 Xd38 gb b0 b1 b2 b3 = Xd39 at *
            have nga := nga'
            have lga := lga'
            have ngb := ngb'
            have lgb := lgb'
            clear nga' lga' ngb' lgb'
            have ox := ox2
            clear ox2
            (try simp only [Act.put, List.setIfInBounds_toArray, List.set_cons_zero, List.set_cons_succ])
            refine wpAnyH_done (by kernel_rfl) ?_ _
            go_wp2_with fail
            go_meet
            exact ⟨ga, gb, rfl, rfl, ⟨⟨nga, lga⟩, ⟨ngb, lgb⟩, trivial⟩, ox⟩
        case hKd36 =>
          intro KK hKK
          go_simp
          obtain ⟨ngb, s9, hbx⟩ := run_new Xd33 0 0 0 0 _ rfl
          have lgb : Xd33.heap.size < (Xd33.alloc (Obj.cells #[Value.int IntKind.i8 0, Value.int IntKind.i64 0, Value.int IntKind.i8 0, Value.int IntKind.i64 0] 29)).heap.size := by omega
          have nga' := nga.below lga hbx
          have lga' := Nat.lt_of_lt_of_le lga hbx.size
          have dgagb : ga ≠ Xd33.heap.size := Nat.ne_of_lt lga
          have dgbga : Xd33.heap.size ≠ ga := (Nat.ne_of_lt lga).symm
          have bgb : W3.heap.size ≤ Xd33.heap.size := ox.2.size
          have ox2 := ox.step hbx
          refine hKK.out _ _ (HS.out _ ox2) (fun hHeld => ?_)
          clear hKK KK ox s9 hbx nga lga
          generalize (Xd33.alloc (Obj.cells #[Value.int IntKind.i8 0, Value.int IntKind.i64 0, Value.int IntKind.i8 0, Value.int IntKind.i64 0] 29)) = Xd36 at *
          generalize Xd33.heap.size = gb at *
          have nga := nga'
          have lga := lga'
          clear nga' lga'
          have ox := ox2
          clear ox2
          (try simp only [Act.put, List.setIfInBounds_toArray, List.set_cons_zero, List.set_cons_succ])
          refine wpAnyH_ready (rs := [3]) (by kernel_rfl) (by simp) ?_
          refine AllReadyH.cons (o := ?oid40) ?hod40 ?hKd40 AllReadyH.nil
          case hod40 => (simp only [List.getElem?_toArray, List.getElem?_cons_succ, List.getElem?_cons_zero]; rfl)
          case hKd40 =>
            intro KK hKK
            go_simp
            (go_at_call 5; ((with_reducible refine (KY.out _ _ ox).mono ?_); rintro e1 Xd40 ⟨rfl, hk⟩))
            (try go_wp2_with fail)
            have hbx : Below Xd36.heap.size Xd36 Xd40 := hk.2
            have nga' := nga.below lga hbx
            have lga' := Nat.lt_of_lt_of_le lga hbx.size
            have ngb' := ngb.below lgb hbx
            have lgb' := Nat.lt_of_lt_of_le lgb hbx.size
            have ox2 := hk.1
            refine hKK.out _ _ (HS.out _ ox2) (fun hHeld => ?_)
            clear hKK KK ox hk hbx nga lga ngb lgb
            have nga := nga'
            have lga := lga'
            have ngb := ngb'
            have lgb := lgb'
            clear nga' lga' ngb' lgb'
            have ox := ox2
            clear ox2
            (try simp only [Act.put, List.setIfInBounds_toArray, List.set_cons_zero, List.set_cons_succ])
            refine wpAnyH_ready (rs := [6]) (by kernel_rfl) (by simp) ?_
            refine AllReadyH.cons (o := ?oid41) ?hod41 ?hKd41 AllReadyH.nil
            case hod41 => (simp only [List.getElem?_toArray, List.getElem?_cons_succ, List.getElem?_cons_zero]; rfl)
            intro KK hKK
            obtain ⟨cga0, cga1, cga2, cga3⟩ := nga.quad
            have yga0 := nga.frozen 0
            have yga1 := nga.frozen 1
            have yga2 := nga.frozen 2
            have yga3 := nga.frozen 3
            go_simp
            have ox2 : Ok W3 (set4 Xd40 ga a0 a1 a2 a3) := ox.set4 bga a0 a1 a2 a3
            have nga' := nga.store a0 a1 a2 a3
            have ngb' := ngb.set4_other (g' := ga) dgbga a0 a1 a2 a3
            have z9 : (set4 Xd40 ga a0 a1 a2 a3).heap.size = Xd40.heap.size := set4_size _ _ _ _ _ _
            have lga' : ga < (set4 Xd40 ga a0 a1 a2 a3).heap.size := by rw [z9]; exact lga
            have lgb' : gb < (set4 Xd40 ga a0 a1 a2 a3).heap.size := by rw [z9]; exact lgb
            refine hKK.out _ _ (HS.out _ ox2) (fun hHeld => ?_)
            clear hKK KK ox z9 nga lga ngb lgb cga0 cga1 cga2 cga3 yga0 yga1 yga2 yga3
            change wpAnyH _ _ _ _ _ _ _ _ (set4 Xd40 ga a0 a1 a2 a3)
            generalize set4 Xd40 ga a0 a1 a2 a3 = Xd41 at *
            have nga := nga'
            have lga := lga'
            have ngb := ngb'
            have lgb := lgb'
            clear nga' lga' ngb' lgb'
            have ox := ox2
            clear ox2
            (try simp only [Act.put, List.setIfInBounds_toArray, List.set_cons_zero, List.set_cons_succ])
            refine wpAnyH_ready (rs := [7]) (by kernel_rfl) (by simp) ?_
            refine AllReadyH.cons (o := ?oid42) ?hod42 ?hKd42 AllReadyH.nil
            case hod42 => (simp only [List.getElem?_toArray, List.getElem?_cons_succ, List.getElem?_cons_zero]; rfl)
            intro KK hKK
            obtain ⟨cgb0, cgb1, cgb2, cgb3⟩ := ngb.quad
            have ygb0 := ngb.frozen 0
            have ygb1 := ngb.frozen 1
            have ygb2 := ngb.frozen 2
            have ygb3 := ngb.frozen 3
            go_simp
            have ox2 : Ok W3 (set4 Xd41 gb b0 b1 b2 b3) := ox.set4 bgb b0 b1 b2 b3
            have ngb' := ngb.store b0 b1 b2 b3
            have nga' := nga.set4_other (g' := gb) dgagb b0 b1 b2 b3
            have z9 : (set4 Xd41 gb b0 b1 b2 b3).heap.size = Xd41.heap.size := set4_size _ _ _ _ _ _
            have lga' : ga < (set4 Xd41 gb b0 b1 b2 b3).heap.size := by rw [z9]; exact lga
            have lgb' : gb < (set4 Xd41 gb b0 b1 b2 b3).heap.size := by rw [z9]; exact lgb
            refine hKK.out _ _ (HS.out _ ox2) (fun hHeld => ?_)
            clear hKK KK ox z9 nga lga ngb lgb cgb0 cgb1 cgb2 cgb3 ygb0 ygb1 ygb2 ygb3
            change wpAnyH _ _ _ _ _ _ _ _ (set4 Xd41 gb b0 b1 b2 b3)
            generalize set4 Xd41 gb b0 b1 b2 b3 = Xd42 at *
            have nga := nga'
            have lga := lga'
            have ngb := ngb'
            have lgb := lgb'
            clear nga' lga' ngb' lgb'
            have ox := ox2
            clear ox2
            (try simp only [Act.put, List.setIfInBounds_toArray, List.set_cons_zero, List.set_cons_succ])
            refine wpAnyH_done (by kernel_rfl) ?_ _
            go_wp2_with fail
            go_meet
            exact ⟨ga, gb, rfl, rfl, ⟨⟨nga, lga⟩, ⟨ngb, lgb⟩, trivial⟩, ox⟩
      case hKd34 =>
        intro KK hKK
        go_simp
        obtain ⟨ngb, s9, hbx⟩ := run_new Xd4 0 0 0 0 _ rfl
        have lgb : Xd4.heap.size < (Xd4.alloc (Obj.cells #[Value.int IntKind.i8 0, Value.int IntKind.i64 0, Value.int IntKind.i8 0, Value.int IntKind.i64 0] 29)).heap.size := by omega
        have nga' := nga.below lga hbx
        have lga' := Nat.lt_of_lt_of_le lga hbx.size
        have dgagb : ga ≠ Xd4.heap.size := Nat.ne_of_lt lga
        have dgbga : Xd4.heap.size ≠ ga := (Nat.ne_of_lt lga).symm
        have bgb : W3.heap.size ≤ Xd4.heap.size := ox.2.size
        have ox2 := ox.step hbx
        refine hKK.out _ _ (HS.out _ ox2) (fun hHeld => ?_)
        clear hKK KK ox s9 hbx nga lga
        generalize (Xd4.alloc (Obj.cells #[Value.int IntKind.i8 0, Value.int IntKind.i64 0, Value.int IntKind.i8 0, Value.int IntKind.i64 0] 29)) = Xd34 at *
        generalize Xd4.heap.size = gb at *
        have nga := nga'
        have lga := lga'
        clear nga' lga'
        have ox := ox2
        clear ox2
        (try simp only [Act.put, List.setIfInBounds_toArray, List.set_cons_zero, List.set_cons_succ])
        refine wpAnyH_ready (rs := [1]) (by kernel_rfl) (by simp) ?_
        refine AllReadyH.cons (o := ?oid43) ?hod43 ?hKd43 AllReadyH.nil
        case hod43 => (simp only [List.getElem?_toArray, List.getElem?_cons_succ, List.getElem?_cons_zero]; rfl)
        case hKd43 =>
          intro KK hKK
          go_simp
          (go_at_call 5; ((with_reducible refine (KX.out _ _ ox).mono ?_); rintro e1 Xd43 ⟨rfl, hk⟩))
          (try go_wp2_with fail)
          have hbx : Below Xd34.heap.size Xd34 Xd43 := hk.2
          have nga' := nga.below lga hbx
          have lga' := Nat.lt_of_lt_of_le lga hbx.size
          have ngb' := ngb.below lgb hbx
          have lgb' := Nat.lt_of_lt_of_le lgb hbx.size
          have ox2 := hk.1
          refine hKK.out _ _ (HS.out _ ox2) (fun hHeld => ?_)
          clear hKK KK ox hk hbx nga lga ngb lgb
          have nga := nga'
          have lga := lga'
          have ngb := ngb'
          have lgb := lgb'
          clear nga' lga' ngb' lgb'
          have ox := ox2
          clear ox2
          (try simp only [Act.put, List.setIfInBounds_toArray, List.set_cons_zero, List.set_cons_succ])
          refine wpAnyH_ready (rs := [3]) (by kernel_rfl) (by simp) ?_
          refine AllReadyH.cons (o := ?oid44) ?hod44 ?hKd44 AllReadyH.nil
          case hod44 => (simp only [List.getElem?_toArray, List.getElem?_cons_succ, List.getElem?_cons_zero]; rfl)
          case hKd44 =>
            intro KK hKK
            go_simp
            (go_at_call 5; ((with_reducible refine (KY.out _ _ ox).mono ?_); rintro e1 Xd44 ⟨rfl, hk⟩))
            (try go_wp2_with fail)
            have hbx : Below Xd43.heap.size Xd43 Xd44 := hk.2
            have nga' := nga.below lga hbx
            have lga' := Nat.lt_of_lt_of_le lga hbx.size
            have ngb' := ngb.below lgb hbx
            have lgb' := Nat.lt_of_lt_of_le lgb hbx.size
            have ox2 := hk.1
            refine hKK.out _ _ (HS.out _ ox2) (fun hHeld => ?_)
            clear hKK KK ox hk hbx nga lga ngb lgb
            have nga := nga'
            have lga := lga'
            have ngb := ngb'
            have lgb := lgb'
            clear nga' lga' ngb' lgb'
            have ox := ox2
            clear ox2
            (try simp only [Act.put, List.setIfInBounds_toArray, List.set_cons_zero, List.set_cons_succ])
            refine wpAnyH_ready (rs := [6]) (by kernel_rfl) (by simp) ?_
            refine AllReadyH.cons (o := ?oid45) ?hod45 ?hKd45 AllReadyH.nil
            case hod45 => (simp only [List.getElem?_toArray, List.getElem?_cons_succ, List.getElem?_cons_zero]; rfl)
            intro KK hKK
            obtain ⟨cga0, cga1, cga2, cga3⟩ := nga.quad
            have yga0 := nga.frozen 0
            have yga1 := nga.frozen 1
            have yga2 := nga.frozen 2
            have yga3 := nga.frozen 3
            go_simp
            have ox2 : Ok W3 (set4 Xd44 ga a0 a1 a2 a3) := ox.set4 bga a0 a1 a2 a3
            have nga' := nga.store a0 a1 a2 a3
            have ngb' := ngb.set4_other (g' := ga) dgbga a0 a1 a2 a3
            have z9 : (set4 Xd44 ga a0 a1 a2 a3).heap.size = Xd44.heap.size := set4_size _ _ _ _ _ _
            have lga' : ga < (set4 Xd44 ga a0 a1 a2 a3).heap.size := by rw [z9]; exact lga
            have lgb' : gb < (set4 Xd44 ga a0 a1 a2 a3).heap.size := by rw [z9]; exact lgb
            refine hKK.out _ _ (HS.out _ ox2) (fun hHeld => ?_)
            clear hKK KK ox z9 nga lga ngb lgb cga0 cga1 cga2 cga3 yga0 yga1 yga2 yga3
            change wpAnyH _ _ _ _ _ _ _ _ (set4 Xd44 ga a0 a1 a2 a3)
            generalize set4 Xd44 ga a0 a1 a2 a3 = Xd45 at *
            have nga := nga'
            have lga := lga'
            have ngb := ngb'
            have lgb := lgb'
            clear nga' lga' ngb' lgb'
            have ox := ox2
            clear ox2
            (try simp only [Act.put, List.setIfInBounds_toArray, List.set_cons_zero, List.set_cons_succ])
            refine wpAnyH_ready (rs := [7]) (by kernel_rfl) (by simp) ?_
            refine AllReadyH.cons (o := ?oid46) ?hod46 ?hKd46 AllReadyH.nil
            case hod46 => (simp only [List.getElem?_toArray, List.getElem?_cons_succ, List.getElem?_cons_zero]; rfl)
            intro KK hKK
            obtain ⟨cgb0, cgb1, cgb2, cgb3⟩ := ngb.quad
            have ygb0 := ngb.frozen 0
            have ygb1 := ngb.frozen 1
            have ygb2 := ngb.frozen 2
            have ygb3 := ngb.frozen 3
            go_simp
            have ox2 : Ok W3 (set4 Xd45 gb b0 b1 b2 b3) := ox.set4 bgb b0 b1 b2 b3
            have ngb' := ngb.store b0 b1 b2 b3
            have nga' := nga.set4_other (g' := gb) dgagb b0 b1 b2 b3
            have z9 : (set4 Xd45 gb b0 b1 b2 b3).heap.size = Xd45.heap.size := set4_size _ _ _ _ _ _
            have lga' : ga < (set4 Xd45 gb b0 b1 b2 b3).heap.size := by rw [z9]; exact lga
            have lgb' : gb < (set4 Xd45 gb b0 b1 b2 b3).heap.size := by rw [z9]; exact lgb
            refine hKK.out _ _ (HS.out _ ox2) (fun hHeld => ?_)
            clear hKK KK ox z9 nga lga ngb lgb cgb0 cgb1 cgb2 cgb3 ygb0 ygb1 ygb2 ygb3
            change wpAnyH _ _ _ _ _ _ _ _ (set4 Xd45 gb b0 b1 b2 b3)
            generalize set4 Xd45 gb b0 b1 b2 b3 = Xd46 at *
            have nga := nga'
            have lga := lga'
            have ngb := ngb'
            have lgb := lgb'
            clear nga' lga' ngb' lgb'
            have ox := ox2
            clear ox2
            (try simp only [Act.put, List.setIfInBounds_toArray, List.set_cons_zero, List.set_cons_succ])
            refine wpAnyH_done (by kernel_rfl) ?_ _
            go_wp2_with fail
            go_meet
            exact ⟨ga, gb, rfl, rfl, ⟨⟨nga, lga⟩, ⟨ngb, lgb⟩, trivial⟩, ox⟩
    case hKd5 =>
      intro KK hKK
      go_simp
      obtain ⟨ngb, s9, hbx⟩ := run_new X0 0 0 0 0 _ rfl
      have lgb : X0.heap.size < (X0.alloc (Obj.cells #[Value.int IntKind.i8 0, Value.int IntKind.i64 0, Value.int IntKind.i8 0, Value.int IntKind.i64 0] 29)).heap.size := by omega
      have bgb : W3.heap.size ≤ X0.heap.size := ox.2.size
      have ox2 := ox.step hbx
      refine hKK.out _ _ (HS.out _ ox2) (fun hHeld => ?_)
      clear hKK KK ox s9 hbx 
      generalize (X0.alloc (Obj.cells #[Value.int IntKind.i8 0, Value.int IntKind.i64 0, Value.int IntKind.i8 0, Value.int IntKind.i64 0] 29)) = Xd5 at *
      generalize X0.heap.size = gb at *
      have ox := ox2
      clear ox2
      (try simp only [Act.put, List.setIfInBounds_toArray, List.set_cons_zero, List.set_cons_succ])
      refine wpAnyH_ready (rs := [1, 4]) (by kernel_rfl) (by simp) ?_
      refine AllReadyH.cons (o := ?oid47) ?hod47 ?hKd47 (AllReadyH.cons (o := ?oid48) ?hod48 ?hKd48 AllReadyH.nil)
      case hod47 => (simp only [List.getElem?_toArray, List.getElem?_cons_succ, List.getElem?_cons_zero]; rfl)
      case hod48 => (simp only [List.getElem?_toArray, List.getElem?_cons_succ, List.getElem?_cons_zero]; rfl)
      case hKd47 =>
        intro KK hKK
        go_simp
        (go_at_call 5; ((with_reducible refine (KX.out _ _ ox).mono ?_); rintro e1 Xd47 ⟨rfl, hk⟩))
        (try go_wp2_with fail)
        have hbx : Below Xd5.heap.size Xd5 Xd47 := hk.2
        have ngb' := ngb.below lgb hbx
        have lgb' := Nat.lt_of_lt_of_le lgb hbx.size
        have ox2 := hk.1
        refine hKK.out _ _ (HS.out _ ox2) (fun hHeld => ?_)
        clear hKK KK ox hk hbx ngb lgb
        have ngb := ngb'
        have lgb := lgb'
        clear ngb' lgb'
        have ox := ox2
        clear ox2
        (try simp only [Act.put, List.setIfInBounds_toArray, List.set_cons_zero, List.set_cons_succ])
        refine wpAnyH_ready (rs := [3, 4]) (by kernel_rfl) (by simp) ?_
        refine AllReadyH.cons (o := ?oid49) ?hod49 ?hKd49 (AllReadyH.cons (o := ?oid50) ?hod50 ?hKd50 AllReadyH.nil)
        case hod49 => (simp only [List.getElem?_toArray, List.getElem?_cons_succ, List.getElem?_cons_zero]; rfl)
        case hod50 => (simp only [List.getElem?_toArray, List.getElem?_cons_succ, List.getElem?_cons_zero]; rfl)
        case hKd49 =>
          intro KK hKK
          go_simp
          (go_at_call 5; ((with_reducible refine (KY.out _ _ ox).mono ?_); rintro e1 Xd49 ⟨rfl, hk⟩))
          (try go_wp2_with fail)
          have hbx : Below Xd47.heap.size Xd47 Xd49 := hk.2
          have ngb' := ngb.below lgb hbx
          have lgb' := Nat.lt_of_lt_of_le lgb hbx.size
          have ox2 := hk.1
          refine hKK.out _ _ (HS.out _ ox2) (fun hHeld => ?_)
          clear hKK KK ox hk hbx ngb lgb
          have ngb := ngb'
          have lgb := lgb'
          clear ngb' lgb'
          have ox := ox2
          clear ox2
          (try simp only [Act.put, List.setIfInBounds_toArray, List.set_cons_zero, List.set_cons_succ])
          refine wpAnyH_ready (rs := [4]) (by kernel_rfl) (by simp) ?_
          refine AllReadyH.cons (o := ?oid51) ?hod51 ?hKd51 AllReadyH.nil
          case hod51 => (simp only [List.getElem?_toArray, List.getElem?_cons_succ, List.getElem?_cons_zero]; rfl)
          case hKd51 =>
            intro KK hKK
            go_simp
            obtain ⟨nga, s9, hbx⟩ := run_new Xd49 0 0 0 0 _ rfl
            have lga : Xd49.heap.size < (Xd49.alloc (Obj.cells #[Value.int IntKind.i8 0, Value.int IntKind.i64 0, Value.int IntKind.i8 0, Value.int IntKind.i64 0] 29)).heap.size := by omega
            have ngb' := ngb.below lgb hbx
            have lgb' := Nat.lt_of_lt_of_le lgb hbx.size
            have dgbga : gb ≠ Xd49.heap.size := Nat.ne_of_lt lgb
            have dgagb : Xd49.heap.size ≠ gb := (Nat.ne_of_lt lgb).symm
            have bga : W3.heap.size ≤ Xd49.heap.size := ox.2.size
            have ox2 := ox.step hbx
            refine hKK.out _ _ (HS.out _ ox2) (fun hHeld => ?_)
            clear hKK KK ox s9 hbx ngb lgb
            generalize (Xd49.alloc (Obj.cells #[Value.int IntKind.i8 0, Value.int IntKind.i64 0, Value.int IntKind.i8 0, Value.int IntKind.i64 0] 29)) = Xd51 at *
            generalize Xd49.heap.size = ga at *
            have ngb := ngb'
            have lgb := lgb'
            clear ngb' lgb'
            have ox := ox2
            clear ox2
            (try simp only [Act.put, List.setIfInBounds_toArray, List.set_cons_zero, List.set_cons_succ])
            refine wpAnyH_ready (rs := [6]) (by kernel_rfl) (by simp) ?_
            refine AllReadyH.cons (o := ?oid52) ?hod52 ?hKd52 AllReadyH.nil
            case hod52 => (simp only [List.getElem?_toArray, List.getElem?_cons_succ, List.getElem?_cons_zero]; rfl)
            intro KK hKK
            obtain ⟨cga0, cga1, cga2, cga3⟩ := nga.quad
            have yga0 := nga.frozen 0
            have yga1 := nga.frozen 1
            have yga2 := nga.frozen 2
            have yga3 := nga.frozen 3
            go_simp
            have ox2 : Ok W3 (set4 Xd51 ga a0 a1 a2 a3) := ox.set4 bga a0 a1 a2 a3
            have nga' := nga.store a0 a1 a2 a3
            have ngb' := ngb.set4_other (g' := ga) dgbga a0 a1 a2 a3
            have z9 : (set4 Xd51 ga a0 a1 a2 a3).heap.size = Xd51.heap.size := set4_size _ _ _ _ _ _
            have lgb' : gb < (set4 Xd51 ga a0 a1 a2 a3).heap.size := by rw [z9]; exact lgb
            have lga' : ga < (set4 Xd51 ga a0 a1 a2 a3).heap.size := by rw [z9]; exact lga
            refine hKK.out _ _ (HS.out _ ox2) (fun hHeld => ?_)
            clear hKK KK ox z9 ngb lgb nga lga cga0 cga1 cga2 cga3 yga0 yga1 yga2 yga3
            change wpAnyH _ _ _ _ _ _ _ _ (set4 Xd51 ga a0 a1 a2 a3)
            generalize set4 Xd51 ga a0 a1 a2 a3 = Xd52 at *
            have ngb := ngb'
            have lgb := lgb'
            have nga := nga'
            have lga := lga'
            clear ngb' lgb' nga' lga'
            have ox := ox2
            clear ox2
            (try simp only [Act.put, List.setIfInBounds_toArray, List.set_cons_zero, List.set_cons_succ])
            refine wpAnyH_ready (rs := [7]) (by kernel_rfl) (by simp) ?_
            refine AllReadyH.cons (o := ?oid53) ?hod53 ?hKd53 AllReadyH.nil
            case hod53 => (simp only [List.getElem?_toArray, List.getElem?_cons_succ, List.getElem?_cons_zero]; rfl)
            intro KK hKK
            obtain ⟨cgb0, cgb1, cgb2, cgb3⟩ := ngb.quad
            have ygb0 := ngb.frozen 0
            have ygb1 := ngb.frozen 1
            have ygb2 := ngb.frozen 2
            have ygb3 := ngb.frozen 3
            go_simp
            have ox2 : Ok W3 (set4 Xd52 gb b0 b1 b2 b3) := ox.set4 bgb b0 b1 b2 b3
            have ngb' := ngb.store b0 b1 b2 b3
            have nga' := nga.set4_other (g' := gb) dgagb b0 b1 b2 b3
            have z9 : (set4 Xd52 gb b0 b1 b2 b3).heap.size = Xd52.heap.size := set4_size _ _ _ _ _ _
            have lgb' : gb < (set4 Xd52 gb b0 b1 b2 b3).heap.size := by rw [z9]; exact lgb
            have lga' : ga < (set4 Xd52 gb b0 b1 b2 b3).heap.size := by rw [z9]; exact lga
            refine hKK.out _ _ (HS.out _ ox2) (fun hHeld => ?_)
            clear hKK KK ox z9 ngb lgb nga lga cgb0 cgb1 cgb2 cgb3 ygb0 ygb1 ygb2 ygb3
            change wpAnyH _ _ _ _ _ _ _ _ (set4 Xd52 gb b0 b1 b2 b3)
            generalize set4 Xd52 gb b0 b1 b2 b3 = Xd53 at *
            have ngb := ngb'
            have lgb := lgb'
            have nga := nga'
            have lga := lga'
            clear ngb' lgb' nga' lga'
            have ox := ox2
            clear ox2
            (try simp only [Act.put, List.setIfInBounds_toArray, List.set_cons_zero, List.set_cons_succ])
            refine wpAnyH_done (by kernel_rfl) ?_ _
            go_wp2_with fail
            go_meet
            exact ⟨ga, gb, rfl, rfl, ⟨⟨nga, lga⟩, ⟨ngb, lgb⟩, trivial⟩, ox⟩
        case hKd50 =>
          intro KK hKK
          go_simp
          obtain ⟨nga, s9, hbx⟩ := run_new Xd47 0 0 0 0 _ rfl
          have lga : Xd47.heap.size < (Xd47.alloc (Obj.cells #[Value.int IntKind.i8 0, Value.int IntKind.i64 0, Value.int IntKind.i8 0, Value.int IntKind.i64 0] 29)).heap.size := by omega
          have ngb' := ngb.below lgb hbx
          have lgb' := Nat.lt_of_lt_of_le lgb hbx.size
          have dgbga : gb ≠ Xd47.heap.size := Nat.ne_of_lt lgb
          have dgagb : Xd47.heap.size ≠ gb := (Nat.ne_of_lt lgb).symm
          have bga : W3.heap.size ≤ Xd47.heap.size := ox.2.size
          have ox2 := ox.step hbx
          refine hKK.out _ _ (HS.out _ ox2) (fun hHeld => ?_)
          clear hKK KK ox s9 hbx ngb lgb
          generalize (Xd47.alloc (Obj.cells #[Value.int IntKind.i8 0, Value.int IntKind.i64 0, Value.int IntKind.i8 0, Value.int IntKind.i64 0] 29)) = Xd50 at *
          generalize Xd47.heap.size = ga at *
          have ngb := ngb'
          have lgb := lgb'
          clear ngb' lgb'
          have ox := ox2
          clear ox2
          (try simp only [Act.put, List.setIfInBounds_toArray, List.set_cons_zero, List.set_cons_succ])
          refine wpAnyH_ready (rs := [3]) (by kernel_rfl) (by simp) ?_
          refine AllReadyH.cons (o := ?oid54) ?hod54 ?hKd54 AllReadyH.nil
          case hod54 => (simp only [List.getElem?_toArray, List.getElem?_cons_succ, List.getElem?_cons_zero]; rfl)
          case hKd54 =>
            intro KK hKK
            go_simp
            (go_at_call 5; ((with_reducible refine (KY.out _ _ ox).mono ?_); rintro e1 Xd54 ⟨rfl, hk⟩))
            (try go_wp2_with fail)
            have hbx : Below Xd50.heap.size Xd50 Xd54 := hk.2
            have ngb' := ngb.below lgb hbx
            have lgb' := Nat.lt_of_lt_of_le lgb hbx.size
            have nga' := nga.below lga hbx
            have lga' := Nat.lt_of_lt_of_le lga hbx.size
            have ox2 := hk.1
            refine hKK.out _ _ (HS.out _ ox2) (fun hHeld => ?_)
            clear hKK KK ox hk hbx ngb lgb nga lga
            have ngb := ngb'
            have lgb := lgb'
            have nga := nga'
            have lga := lga'
            clear ngb' lgb' nga' lga'
            have ox := ox2
            clear ox2
            (try simp only [Act.put, List.setIfInBounds_toArray, List.set_cons_zero, List.set_cons_succ])
            refine wpAnyH_ready (rs := [6]) (by kernel_rfl) (by simp) ?_
            refine AllReadyH.cons (o := ?oid55) ?hod55 ?hKd55 AllReadyH.nil
            case hod55 => (simp only [List.getElem?_toArray, List.getElem?_cons_succ, List.getElem?_cons_zero]; rfl)
            intro KK hKK
            obtain ⟨cga0, cga1, cga2, cga3⟩ := nga.quad
            have yga0 := nga.frozen 0
            have yga1 := nga.frozen 1
            have yga2 := nga.frozen 2
            have yga3 := nga.frozen 3
            go_simp
            have ox2 : Ok W3 (set4 Xd54 ga a0 a1 a2 a3) := ox.set4 bga a0 a1 a2 a3
            have nga' := nga.store a0 a1 a2 a3
            have ngb' := ngb.set4_other (g' := ga) dgbga a0 a1 a2 a3
            have z9 : (set4 Xd54 ga a0 a1 a2 a3).heap.size = Xd54.heap.size := set4_size _ _ _ _ _ _
            have lgb' : gb < (set4 Xd54 ga a0 a1 a2 a3).heap.size := by rw [z9]; exact lgb
            have lga' : ga < (set4 Xd54 ga a0 a1 a2 a3).heap.size := by rw [z9]; exact lga
            refine hKK.out _ _ (HS.out _ ox2) (fun hHeld => ?_)
            clear hKK KK ox z9 ngb lgb nga lga cga0 cga1 cga2 cga3 yga0 yga1 yga2 yga3
            change wpAnyH _ _ _ _ _ _ _ _ (set4 Xd54 ga a0 a1 a2 a3)
            generalize set4 Xd54 ga a0 a1 a2 a3 = Xd55 at *
            have ngb := ngb'
            have lgb := lgb'
            have nga := nga'
            have lga := lga'
            clear ngb' lgb' nga' lga'
            have ox := ox2
            clear ox2
            (try simp only [Act.put, List.setIfInBounds_toArray, List.set_cons_zero, List.set_cons_succ])
            refine wpAnyH_ready (rs := [7]) (by kernel_rfl) (by simp) ?_
            refine AllReadyH.cons (o := ?oid56) ?hod56 ?hKd56 AllReadyH.nil
            case hod56 => (simp only [List.getElem?_toArray, List.getElem?_cons_succ, List.getElem?_cons_zero]; rfl)
            intro KK hKK
            obtain ⟨cgb0, cgb1, cgb2, cgb3⟩ := ngb.quad
            have ygb0 := ngb.frozen 0
            have ygb1 := ngb.frozen 1
            have ygb2 := ngb.frozen 2
            have ygb3 := ngb.frozen 3
            go_simp
            have ox2 : Ok W3 (set4 Xd55 gb b0 b1 b2 b3) := ox.set4 bgb b0 b1 b2 b3
            have ngb' := ngb.store b0 b1 b2 b3
            have nga' := nga.set4_other (g' := gb) dgagb b0 b1 b2 b3
            have z9 : (set4 Xd55 gb b0 b1 b2 b3).heap.size = Xd55.heap.size := set4_size _ _ _ _ _ _
            have lgb' : gb < (set4 Xd55 gb b0 b1 b2 b3).heap.size := by rw [z9]; exact lgb
            have lga' : ga < (set4 Xd55 gb b0 b1 b2 b3).heap.size := by rw [z9]; exact lga
            refine hKK.out _ _ (HS.out _ ox2) (fun hHeld => ?_)
            clear hKK KK ox z9 ngb lgb nga lga cgb0 cgb1 cgb2 cgb3 ygb0 ygb1 ygb2 ygb3
            change wpAnyH _ _ _ _ _ _ _ _ (set4 Xd55 gb b0 b1 b2 b3)
            generalize set4 Xd55 gb b0 b1 b2 b3 = Xd56 at *
            have ngb := ngb'
            have lgb := lgb'
            have nga := nga'
            have lga := lga'
            clear ngb' lgb' nga' lga'
            have ox := ox2
            clear ox2
            (try simp only [Act.put, List.setIfInBounds_toArray, List.set_cons_zero, List.set_cons_succ])
            refine wpAnyH_done (by kernel_rfl) ?_ _
            go_wp2_with fail
            go_meet
            exact ⟨ga, gb, rfl, rfl, ⟨⟨nga, lga⟩, ⟨ngb, lgb⟩, trivial⟩, ox⟩
      case hKd48 =>
        intro KK hKK
        go_simp
        obtain ⟨nga, s9, hbx⟩ := run_new Xd5 0 0 0 0 _ rfl
        have lga : Xd5.heap.size < (Xd5.alloc (Obj.cells #[Value.int IntKind.i8 0, Value.int IntKind.i64 0, Value.int IntKind.i8 0, Value.int IntKind.i64 0] 29)).heap.size := by omega
        have ngb' := ngb.below lgb hbx
        have lgb' := Nat.lt_of_lt_of_le lgb hbx.size
        have dgbga : gb ≠ Xd5.heap.size := Nat.ne_of_lt lgb
        have dgagb : Xd5.heap.size ≠ gb := (Nat.ne_of_lt lgb).symm
        have bga : W3.heap.size ≤ Xd5.heap.size := ox.2.size
        have ox2 := ox.step hbx
        refine hKK.out _ _ (HS.out _ ox2) (fun hHeld => ?_)
        clear hKK KK ox s9 hbx ngb lgb
        generalize (Xd5.alloc (Obj.cells #[Value.int IntKind.i8 0, Value.int IntKind.i64 0, Value.int IntKind.i8 0, Value.int IntKind.i64 0] 29)) = Xd48 at *
        generalize Xd5.heap.size = ga at *
        have ngb := ngb'
        have lgb := lgb'
        clear ngb' lgb'
        have ox := ox2
        clear ox2
        (try simp only [Act.put, List.setIfInBounds_toArray, List.set_cons_zero, List.set_cons_succ])
        refine wpAnyH_ready (rs := [1]) (by kernel_rfl) (by simp) ?_
        refine AllReadyH.cons (o := ?oid57) ?hod57 ?hKd57 AllReadyH.nil
        case hod57 => (simp only [List.getElem?_toArray, List.getElem?_cons_succ, List.getElem?_cons_zero]; rfl)
        case hKd57 =>
          intro KK hKK
          go_simp
          (go_at_call 5; ((with_reducible refine (KX.out _ _ ox).mono ?_); rintro e1 Xd57 ⟨rfl, hk⟩))
          (try go_wp2_with fail)
          have hbx : Below Xd48.heap.size Xd48 Xd57 := hk.2
          have ngb' := ngb.below lgb hbx
          have lgb' := Nat.lt_of_lt_of_le lgb hbx.size
          have nga' := nga.below lga hbx
          have lga' := Nat.lt_of_lt_of_le lga hbx.size
          have ox2 := hk.1
          refine hKK.out _ _ (HS.out _ ox2) (fun hHeld => ?_)
          clear hKK KK ox hk hbx ngb lgb nga lga
          have ngb := ngb'
          have lgb := lgb'
          have nga := nga'
          have lga := lga'
          clear ngb' lgb' nga' lga'
          have ox := ox2
          clear ox2
          (try simp only [Act.put, List.setIfInBounds_toArray, List.set_cons_zero, List.set_cons_succ])
          refine wpAnyH_ready (rs := [3]) (by kernel_rfl) (by simp) ?_
          refine AllReadyH.cons (o := ?oid58) ?hod58 ?hKd58 AllReadyH.nil
          case hod58 => (simp only [List.getElem?_toArray, List.getElem?_cons_succ, List.getElem?_cons_zero]; rfl)
          case hKd58 =>
            intro KK hKK
            go_simp
            (go_at_call 5; ((with_reducible refine (KY.out _ _ ox).mono ?_); rintro e1 Xd58 ⟨rfl, hk⟩))
            (try go_wp2_with fail)
            have hbx : Below Xd57.heap.size Xd57 Xd58 := hk.2
            have ngb' := ngb.below lgb hbx
            have lgb' := Nat.lt_of_lt_of_le lgb hbx.size
            have nga' := nga.below lga hbx
            have lga' := Nat.lt_of_lt_of_le lga hbx.size
            have ox2 := hk.1
            refine hKK.out _ _ (HS.out _ ox2) (fun hHeld => ?_)
            clear hKK KK ox hk hbx ngb lgb nga lga
            have ngb := ngb'
            have lgb := lgb'
            have nga := nga'
            have lga := lga'
            clear ngb' lgb' nga' lga'
            have ox := ox2
            clear ox2
            (try simp only [Act.put, List.setIfInBounds_toArray, List.set_cons_zero, List.set_cons_succ])
            refine wpAnyH_ready (rs := [6]) (by kernel_rfl) (by simp) ?_
            refine AllReadyH.cons (o := ?oid59) ?hod59 ?hKd59 AllReadyH.nil
            case hod59 => (simp only [List.getElem?_toArray, List.getElem?_cons_succ, List.getElem?_cons_zero]; rfl)
            intro KK hKK
            obtain ⟨cga0, cga1, cga2, cga3⟩ := nga.quad
            have yga0 := nga.frozen 0
            have yga1 := nga.frozen 1
            have yga2 := nga.frozen 2
            have yga3 := nga.frozen 3
            go_simp
            have ox2 : Ok W3 (set4 Xd58 ga a0 a1 a2 a3) := ox.set4 bga a0 a1 a2 a3
            have nga' := nga.store a0 a1 a2 a3
            have ngb' := ngb.set4_other (g' := ga) dgbga a0 a1 a2 a3
            have z9 : (set4 Xd58 ga a0 a1 a2 a3).heap.size = Xd58.heap.size := set4_size _ _ _ _ _ _
            have lgb' : gb < (set4 Xd58 ga a0 a1 a2 a3).heap.size := by rw [z9]; exact lgb
            have lga' : ga < (set4 Xd58 ga a0 a1 a2 a3).heap.size := by rw [z9]; exact lga
            refine hKK.out _ _ (HS.out _ ox2) (fun hHeld => ?_)
            clear hKK KK ox z9 ngb lgb nga lga cga0 cga1 cga2 cga3 yga0 yga1 yga2 yga3
            change wpAnyH _ _ _ _ _ _ _ _ (set4 Xd58 ga a0 a1 a2 a3)
            generalize set4 Xd58 ga a0 a1 a2 a3 = Xd59 at *
            have ngb := ngb'
            have lgb := lgb'
            have nga := nga'
            have lga := lga'
            clear ngb' lgb' nga' lga'
            have ox := ox2
            clear ox2
            (try simp only [Act.put, List.setIfInBounds_toArray, List.set_cons_zero, List.set_cons_succ])
            refine wpAnyH_ready (rs := [7]) (by kernel_rfl) (by simp) ?_
            refine AllReadyH.cons (o := ?oid60) ?hod60 ?hKd60 AllReadyH.nil
            case hod60 => (simp only [List.getElem?_toArray, List.getElem?_cons_succ, List.getElem?_cons_zero]; rfl)
            intro KK hKK
            obtain ⟨cgb0, cgb1, cgb2, cgb3⟩ := ngb.quad
            have ygb0 := ngb.frozen 0
            have ygb1 := ngb.frozen 1
            have ygb2 := ngb.frozen 2
            have ygb3 := ngb.frozen 3
            go_simp
            have ox2 : Ok W3 (set4 Xd59 gb b0 b1 b2 b3) := ox.set4 bgb b0 b1 b2 b3
            have ngb' := ngb.store b0 b1 b2 b3
            have nga' := nga.set4_other (g' := gb) dgagb b0 b1 b2 b3
            have z9 : (set4 Xd59 gb b0 b1 b2 b3).heap.size = Xd59.heap.size := set4_size _ _ _ _ _ _
            have lgb' : gb < (set4 Xd59 gb b0 b1 b2 b3).heap.size := by rw [z9]; exact lgb
            have lga' : ga < (set4 Xd59 gb b0 b1 b2 b3).heap.size := by rw [z9]; exact lga
            refine hKK.out _ _ (HS.out _ ox2) (fun hHeld => ?_)
            clear hKK KK ox z9 ngb lgb nga lga cgb0 cgb1 cgb2 cgb3 ygb0 ygb1 ygb2 ygb3
            change wpAnyH _ _ _ _ _ _ _ _ (set4 Xd59 gb b0 b1 b2 b3)
            generalize set4 Xd59 gb b0 b1 b2 b3 = Xd60 at *
            have ngb := ngb'
            have lgb := lgb'
            have nga := nga'
            have lga := lga'
            clear ngb' lgb' nga' lga'
            have ox := ox2
            clear ox2
            (try simp only [Act.put, List.setIfInBounds_toArray, List.set_cons_zero, List.set_cons_succ])
            refine wpAnyH_done (by kernel_rfl) ?_ _
            go_wp2_with fail
            go_meet
            exact ⟨ga, gb, rfl, rfl, ⟨⟨nga, lga⟩, ⟨ngb, lgb⟩, trivial⟩, ox⟩
  case rest =>
    obtain ⟨ga, gb, rfl, rfl, hB, ow⟩ := hcut
    have o4 := oo.step ow.2
    clear oo ow oc HS r1 r2 hne hsz KX KY ep eq
    generalize wc = W4 at *
    go_upto_region 6 with fail
    go_loopw [7, 8, 9, 10] (fun v7 v8 v9 v10 wr => ∃ (k : Nat) (n : Int), k ≤ 121 ∧ n = -60 + k ∧ v10 = .int .i64 n ∧ v7 = .bool (anyN (fun n => pA n && (pB (n - 1) || pB (n + 1))) k) ∧ v8 = .bool (anyN (fun n => pA n && pB n) k) ∧ v9 = .bool (anyN (fun n => pA n && !pB n) k) ∧ Ok W4 wr) (fun _ _ _ v10 _ => (61 - intOf v10).toNat)
    case atStart => exact ⟨0, -60, by omega, by omega, rfl, rfl, rfl, rfl, Ok.refl o4.1⟩
    case round =>
      obtain ⟨k, n, hk, hn, rfl, rfl, rfl, rfl, oc⟩ := hrel
      have hBc := hB.below oc.2
      by_cases hlt : k < 121
      · have hle : n ≤ 60 := by omega
        have hge : -60 ≤ n := by omega
        have KAn := Lib.hid (fun B X hX => KA.out n (by omega) (by omega) B X hX)
        have KBn := Lib.hid (fun B X hX => KB.out n (by omega) (by omega) B X hX)
        have KBp := Lib.hid (fun B X hX => KB.out (n + 1) (by omega) (by omega) B X hX)
        have KBm := Lib.hid (fun B X hX => KB.out (n - 1) (by omega) (by omega) B X hX)
        have s1 : anyN (fun n => pA n && (pB (n - 1) || pB (n + 1))) (k + 1) = (anyN (fun n => pA n && (pB (n - 1) || pB (n + 1))) k || (pA n && (pB (n - 1) || pB (n + 1)))) := by rw [hn]; rfl
        have s2 : anyN (fun n => pA n && pB n) (k + 1) = (anyN (fun n => pA n && pB n) k || (pA n && pB n)) := by rw [hn]; rfl
        have s3 : anyN (fun n => pA n && !pB n) (k + 1) = (anyN (fun n => pA n && !pB n) k || (pA n && !pB n)) := by rw [hn]; rfl
        have HS1 := Lib.hid s1
        have HS2 := Lib.hid s2
        have HS3 := Lib.hid s3
        clear s1 s2 s3
        generalize anyN (fun n => pA n && (pB (n - 1) || pB (n + 1))) k = ne at *
        generalize anyN (fun n => pA n && pB n) k = bo at *
        generalize anyN (fun n => pA n && !pB n) k = ou at *
        generalize pA n = P at *
        generalize pB n = Q at *
        generalize pB (n - 1) = Qm at *
        generalize pB (n + 1) = Qp at *
        have hwm : IntKind.i64.wrap (n - 1) = n - 1 := IntWalk.i64_in _ (by omega)
        have hwp : IntKind.i64.wrap (n + 1) = n + 1 := IntWalk.i64_in _ (by omega)
        have HN := Lib.hid hn
        have HK := Lib.hid hk
        clear hn hk
        obtain ⟨⟨bga, lga⟩, ⟨bgb, lgb⟩, -⟩ := hBc
        obtain ⟨fga0, fga1, fga2, fga3⟩ := bga.quad
        obtain ⟨fgb0, fgb1, fgb2, fgb3⟩ := bgb.quad
        clear bga lga bgb lgb
        go_upto_region 8 with fail
        refine wp_region_held_drew (S := (fun x => x.cell? ⟨ga, 0, none⟩ = some (.int .i8 a0) ∧ x.cell? ⟨ga, 1, none⟩ = some (.int .i64 a1) ∧ x.cell? ⟨ga, 2, none⟩ = some (.int .i8 a2) ∧ x.cell? ⟨ga, 3, none⟩ = some (.int .i64 a3) ∧ x.cell? ⟨gb, 0, none⟩ = some (.int .i8 b0) ∧ x.cell? ⟨gb, 1, none⟩ = some (.int .i64 b1) ∧ x.cell? ⟨gb, 2, none⟩ = some (.int .i8 b2) ∧ x.cell? ⟨gb, 3, none⟩ = some (.int .i64 b3))) (by kernel_rfl) ?_ (fun hHeld => ?_)
        · (try dsimp only)
          go_keep
        refine wpAnyH_take (i := 0) (oi := ?oi0m) (v := ?v0m) ?hi0m (by kernel_rfl) (by kernel_rfl) (by kernel_rfl) ?hQ0m ?hy0m (by assumption) ?rest0m
        case hi0m => (simp only [List.getElem?_toArray, List.getElem?_cons_zero]; rfl)
        case hQ0m => exact fun _ _ _ h => h
        case hy0m => exact Or.inl ⟨by rfl, by (intro w hSw; (try dsimp only at hSw); go_simp; try with_reducible rfl)⟩
        (try simp only [Act.put, List.setIfInBounds_toArray, List.set_cons_zero, List.set_cons_succ])
        refine wpAnyH_take (i := 1) (oi := ?oi1m) (v := ?v1m) ?hi1m (by kernel_rfl) (by kernel_rfl) (by kernel_rfl) ?hQ1m ?hy1m (by assumption) ?rest1m
        case hi1m => (simp only [List.getElem?_toArray, List.getElem?_cons_succ, List.getElem?_cons_zero]; rfl)
        case hQ1m => exact fun _ _ _ h => h
        case hy1m => exact Or.inl ⟨by rfl, by (intro w hSw; (try dsimp only at hSw); go_simp; try with_reducible rfl)⟩
        (try simp only [Act.put, List.setIfInBounds_toArray, List.set_cons_zero, List.set_cons_succ])
        refine wpAnyH_take (i := 3) (oi := ?oi3m) (v := ?v3m) ?hi3m (by kernel_rfl) (by kernel_rfl) (by kernel_rfl) ?hQ3m ?hy3m (by assumption) ?rest3m
        case hi3m => (simp only [List.getElem?_toArray, List.getElem?_cons_succ, List.getElem?_cons_zero]; rfl)
        case hQ3m => exact fun _ _ _ h => h
        case hy3m => exact Or.inl ⟨by rfl, by (intro w hSw; (try dsimp only at hSw); go_simp; try with_reducible rfl)⟩
        (try simp only [Act.put, List.setIfInBounds_toArray, List.set_cons_zero, List.set_cons_succ])
        refine wpAnyH_take (i := 4) (oi := ?oi4m) (v := ?v4m) ?hi4m (by kernel_rfl) (by kernel_rfl) (by kernel_rfl) ?hQ4m ?hy4m (by assumption) ?rest4m
        case hi4m => (simp only [List.getElem?_toArray, List.getElem?_cons_succ, List.getElem?_cons_zero]; rfl)
        case hQ4m => exact fun _ _ _ h => h
        case hy4m => exact Or.inl ⟨by rfl, by (intro w hSw; (try dsimp only at hSw); go_simp; try with_reducible rfl)⟩
        (try simp only [Act.put, List.setIfInBounds_toArray, List.set_cons_zero, List.set_cons_succ])
        refine wpAnyH_ready (rs := [2]) (by kernel_rfl) (by simp) ?_
        refine AllReadyH.cons (o := ?oi2m) ?ho2m ?hK2m AllReadyH.nil
        case ho2m => (simp only [List.getElem?_toArray, List.getElem?_cons_succ, List.getElem?_cons_zero]; rfl)
        intro KK hKK
        go_simp
        (first
      | (go_at_call 6; ((with_reducible refine (KAn.out _ _ (oc.step (by go_grown))).mono ?_); rintro e1 w' ⟨rfl, hk⟩; (try clear oc); have oc := hk; (try clear mga0 mga1 mga2 mga3 mgb0 mgb1 mgb2 mgb3); obtain ⟨⟨bga, lga⟩, ⟨bgb, lgb⟩, -⟩ := hB.below hk.2; obtain ⟨mga0, mga1, mga2, mga3⟩ := bga.quad; obtain ⟨mgb0, mgb1, mgb2, mgb3⟩ := bgb.quad; clear bga lga bgb lgb; clear hk))
      | (go_at_call 6; ((with_reducible refine (KBn.out _ _ (oc.step (by go_grown))).mono ?_); rintro e1 w' ⟨rfl, hk⟩; (try clear oc); have oc := hk; (try clear mga0 mga1 mga2 mga3 mgb0 mgb1 mgb2 mgb3); obtain ⟨⟨bga, lga⟩, ⟨bgb, lgb⟩, -⟩ := hB.below hk.2; obtain ⟨mga0, mga1, mga2, mga3⟩ := bga.quad; obtain ⟨mgb0, mgb1, mgb2, mgb3⟩ := bgb.quad; clear bga lga bgb lgb; clear hk)))
        (try go_wp2_with fail)
        refine hKK.out _ _ ?_ (fun hHeld => ?_)
        · (try dsimp only)
          go_keep
        clear hKK KK
        (try simp only [Act.put, List.setIfInBounds_toArray, List.set_cons_zero, List.set_cons_succ])
        refine wpAnyH_ready (rs := [5]) (by kernel_rfl) (by simp) ?_
        refine AllReadyH.cons (o := ?oi5m) ?ho5m ?hK5m AllReadyH.nil
        case ho5m => (simp only [List.getElem?_toArray, List.getElem?_cons_succ, List.getElem?_cons_zero]; rfl)
        intro KK hKK
        go_simp
        (first
      | (go_at_call 6; ((with_reducible refine (KAn.out _ _ (oc.step (by go_grown))).mono ?_); rintro e1 w' ⟨rfl, hk⟩; (try clear oc); have oc := hk; (try clear mga0 mga1 mga2 mga3 mgb0 mgb1 mgb2 mgb3); obtain ⟨⟨bga, lga⟩, ⟨bgb, lgb⟩, -⟩ := hB.below hk.2; obtain ⟨mga0, mga1, mga2, mga3⟩ := bga.quad; obtain ⟨mgb0, mgb1, mgb2, mgb3⟩ := bgb.quad; clear bga lga bgb lgb; clear hk))
      | (go_at_call 6; ((with_reducible refine (KBn.out _ _ (oc.step (by go_grown))).mono ?_); rintro e1 w' ⟨rfl, hk⟩; (try clear oc); have oc := hk; (try clear mga0 mga1 mga2 mga3 mgb0 mgb1 mgb2 mgb3); obtain ⟨⟨bga, lga⟩, ⟨bgb, lgb⟩, -⟩ := hB.below hk.2; obtain ⟨mga0, mga1, mga2, mga3⟩ := bga.quad; obtain ⟨mgb0, mgb1, mgb2, mgb3⟩ := bgb.quad; clear bga lga bgb lgb; clear hk)))
        (try go_wp2_with fail)
        refine hKK.out _ _ ?_ (fun hHeld => ?_)
        · (try dsimp only)
          go_keep
        clear hKK KK
        (try simp only [Act.put, List.setIfInBounds_toArray, List.set_cons_zero, List.set_cons_succ])
        refine wpAnyH_take (i := 6) (oi := ?oi6m) (v := ?v6m) ?hi6m (by kernel_rfl) (by kernel_rfl) (by kernel_rfl) ?hQ6m ?hy6m (by assumption) ?rest6m
        case hi6m => (simp only [List.getElem?_toArray, List.getElem?_cons_succ, List.getElem?_cons_zero]; rfl)
        case hQ6m => exact fun _ _ _ h => h
        case hy6m => exact Or.inl ⟨by rfl, by (intro w hSw; (try dsimp only at hSw); go_simp; try with_reducible rfl)⟩
        (try simp only [Act.put, List.setIfInBounds_toArray, List.set_cons_zero, List.set_cons_succ])
        refine wpAnyH_take (i := 7) (oi := ?oi7m) (v := ?v7m) ?hi7m (by kernel_rfl) (by kernel_rfl) (by kernel_rfl) ?hQ7m ?hy7m (by assumption) ?rest7m
        case hi7m => (simp only [List.getElem?_toArray, List.getElem?_cons_succ, List.getElem?_cons_zero]; rfl)
        case hQ7m => exact fun _ _ _ h => h
        case hy7m => exact Or.inl ⟨by rfl, by (intro w hSw; (try dsimp only at hSw); go_simp; try with_reducible rfl)⟩
        (try simp only [Act.put, List.setIfInBounds_toArray, List.set_cons_zero, List.set_cons_succ])
        refine wpAnyH_done (by kernel_rfl) ?_ _
        clear KAn KBn
        go_upto_region 9 with fail
        go_cut [8] from 29 to 69 (fun v8 wx => v8 = .bool (bo || (P && Q)) ∧ Ok W4 wx)
        case first =>
          cases bo
          · cases P
            · go_wp2_with fail
              go_meet
              exact ⟨rfl, oc⟩
            · go_wp2_with fail
              go_meet
              exact ⟨by cases Q <;> rfl, oc⟩
          · go_wp2_with fail
            go_meet
            exact ⟨rfl, oc⟩
        case rest =>
          obtain ⟨rfl, o9⟩ := hcut
          clear oc fga0 fga1 fga2 fga3 fgb0 fgb1 fgb2 fgb3
          (try clear mga0 mga1 mga2 mga3 mgb0 mgb1 mgb2 mgb3)
          have oc := o9
          clear o9
          go_upto_region 10 with fail
          go_cut [9] from 29 to 69 (fun v9 wx => v9 = .bool (ou || (P && !Q)) ∧ Ok W4 wx)
          case first =>
            cases ou
            · cases P
              · go_wp2_with fail
                go_meet
                exact ⟨rfl, oc⟩
              · go_wp2_with fail
                go_meet
                exact ⟨by cases Q <;> rfl, oc⟩
            · go_wp2_with fail
              go_meet
              exact ⟨rfl, oc⟩
          case rest =>
            obtain ⟨rfl, o9⟩ := hcut
            clear oc
            have oc := o9
            clear o9
            obtain ⟨⟨bga, lga⟩, ⟨bgb, lgb⟩, -⟩ := hB.below oc.2
            obtain ⟨fga0, fga1, fga2, fga3⟩ := bga.quad
            obtain ⟨fgb0, fgb1, fgb2, fgb3⟩ := bgb.quad
            clear bga lga bgb lgb
            go_upto_region 11 with fail
            cases ne
            · cases P
              · skip
                go_wp2_with fail
                go_roundw
                case rel => exact ⟨k + 1, n + 1, by omega, by have := HN.out; omega, rfl, by first | (rw [HS1.out]; done) | (rw [HS1.out]; rfl) | (rw [HS1.out]; cases Qp <;> rfl), by first | (rw [HS2.out]; done) | (rw [HS2.out]; rfl) | (rw [HS2.out]; cases bo <;> cases Q <;> rfl), by first | (rw [HS3.out]; done) | (rw [HS3.out]; rfl) | (rw [HS3.out]; cases ou <;> cases Q <;> rfl), oc⟩
                case measure => simp [intOf]; omega
              · cases Qm
                · skip
                  go_wp2_with (first | (go_at_call 6; ((with_reducible refine (KBm.out _ _ oc).mono ?_); rintro e1 w' ⟨rfl, hk⟩; (try clear oc); have oc := hk; (try clear mga0 mga1 mga2 mga3 mgb0 mgb1 mgb2 mgb3); obtain ⟨⟨bga, lga⟩, ⟨bgb, lgb⟩, -⟩ := hB.below hk.2; obtain ⟨mga0, mga1, mga2, mga3⟩ := bga.quad; obtain ⟨mgb0, mgb1, mgb2, mgb3⟩ := bgb.quad; clear bga lga bgb lgb; clear hk)) | (go_at_call 6; ((with_reducible refine (KBp.out _ _ oc).mono ?_); rintro e1 w' ⟨rfl, hk⟩; (try clear oc); have oc := hk; (try clear mga0 mga1 mga2 mga3 mgb0 mgb1 mgb2 mgb3); obtain ⟨⟨bga, lga⟩, ⟨bgb, lgb⟩, -⟩ := hB.below hk.2; obtain ⟨mga0, mga1, mga2, mga3⟩ := bga.quad; obtain ⟨mgb0, mgb1, mgb2, mgb3⟩ := bgb.quad; clear bga lga bgb lgb; clear hk)))
                  go_roundw
                  case rel => exact ⟨k + 1, n + 1, by omega, by have := HN.out; omega, rfl, by first | (rw [HS1.out]; done) | (rw [HS1.out]; rfl) | (rw [HS1.out]; cases Qp <;> rfl), by first | (rw [HS2.out]; done) | (rw [HS2.out]; rfl) | (rw [HS2.out]; cases bo <;> cases Q <;> rfl), by first | (rw [HS3.out]; done) | (rw [HS3.out]; rfl) | (rw [HS3.out]; cases ou <;> cases Q <;> rfl), oc⟩
                  case measure => simp [intOf]; omega
                · skip
                  go_wp2_with (first | (go_at_call 6; ((with_reducible refine (KBm.out _ _ oc).mono ?_); rintro e1 w' ⟨rfl, hk⟩; (try clear oc); have oc := hk; (try clear mga0 mga1 mga2 mga3 mgb0 mgb1 mgb2 mgb3); obtain ⟨⟨bga, lga⟩, ⟨bgb, lgb⟩, -⟩ := hB.below hk.2; obtain ⟨mga0, mga1, mga2, mga3⟩ := bga.quad; obtain ⟨mgb0, mgb1, mgb2, mgb3⟩ := bgb.quad; clear bga lga bgb lgb; clear hk)) | (go_at_call 6; ((with_reducible refine (KBp.out _ _ oc).mono ?_); rintro e1 w' ⟨rfl, hk⟩; (try clear oc); have oc := hk; (try clear mga0 mga1 mga2 mga3 mgb0 mgb1 mgb2 mgb3); obtain ⟨⟨bga, lga⟩, ⟨bgb, lgb⟩, -⟩ := hB.below hk.2; obtain ⟨mga0, mga1, mga2, mga3⟩ := bga.quad; obtain ⟨mgb0, mgb1, mgb2, mgb3⟩ := bgb.quad; clear bga lga bgb lgb; clear hk)))
                  go_roundw
                  case rel => exact ⟨k + 1, n + 1, by omega, by have := HN.out; omega, rfl, by first | (rw [HS1.out]; done) | (rw [HS1.out]; rfl) | (rw [HS1.out]; cases Qp <;> rfl), by first | (rw [HS2.out]; done) | (rw [HS2.out]; rfl) | (rw [HS2.out]; cases bo <;> cases Q <;> rfl), by first | (rw [HS3.out]; done) | (rw [HS3.out]; rfl) | (rw [HS3.out]; cases ou <;> cases Q <;> rfl), oc⟩
                  case measure => simp [intOf]; omega
            · skip
              go_wp2_with fail
              go_roundw
              case rel => exact ⟨k + 1, n + 1, by omega, by have := HN.out; omega, rfl, by first | (rw [HS1.out]; done) | (rw [HS1.out]; rfl) | (rw [HS1.out]; cases Qp <;> rfl), by first | (rw [HS2.out]; done) | (rw [HS2.out]; rfl) | (rw [HS2.out]; cases bo <;> cases Q <;> rfl), by first | (rw [HS3.out]; done) | (rw [HS3.out]; rfl) | (rw [HS3.out]; cases ou <;> cases Q <;> rfl), oc⟩
              case measure => simp [intOf]; omega
      · have hk1 : k = 121 := by omega
        subst hk1
        have hgt : ¬ n ≤ 60 := by omega
        have hgt2 : 60 < n := by omega
        clear hn hk hlt
        have hF := hfin
        generalize anyN (fun n => pA n && (pB (n - 1) || pB (n + 1))) 121 = ne at *
        generalize anyN (fun n => pA n && pB n) 121 = bo at *
        generalize anyN (fun n => pA n && !pB n) 121 = ou at *
        have o5 := o4.step oc.2
        clear o4 oc hB
        generalize wr = W5 at *
        have hB := hBc
        clear hBc
        have oo := o5
        clear o5
        have oc := Ok.refl oo.1
        obtain ⟨h1, h2, h3⟩ := hF
        subst h2
        subst h3
        have e1 : (t == t) = true := by cases t <;> rfl
        have e2 : (bo == bo) = true := by cases bo <;> rfl
        have e3 : ((!ou) == !ou) = true := by cases ou <;> rfl
        obtain ⟨⟨bga, lga⟩, ⟨bgb, lgb⟩, -⟩ := id hB
        obtain ⟨fga0, fga1, fga2, fga3⟩ := bga.quad
        obtain ⟨fgb0, fgb1, fgb2, fgb3⟩ := bgb.quad
        clear bga lga bgb lgb
        go_upto_region 13 with (go_at_call 7; ((with_reducible refine (KJ.out _ _ oc).mono ?_); rintro e1 w' ⟨rfl, hk⟩; (try clear oc); have oc := hk; (try clear mga0 mga1 mga2 mga3 mgb0 mgb1 mgb2 mgb3); obtain ⟨⟨bga, lga⟩, ⟨bgb, lgb⟩, -⟩ := hB.below hk.2; obtain ⟨mga0, mga1, mga2, mga3⟩ := bga.quad; obtain ⟨mgb0, mgb1, mgb2, mgb3⟩ := bgb.quad; clear bga lga bgb lgb; clear hk))
        have hB' := Bs.new (hB.below oc.2) p0 p1 p2 p3
        have o' := (oo.step oc.2).step (run_new w' p0 p1 p2 p3 _ rfl).2.2
        clear hB oo oc fga0 fga1 fga2 fga3 fgb0 fgb1 fgb2 fgb3 KJ
        (try clear mga0 mga1 mga2 mga3 mgb0 mgb1 mgb2 mgb3)
        generalize (w'.alloc (Obj.cells #[Value.int IntKind.i8 p0, Value.int IntKind.i64 p1, Value.int IntKind.i8 p2, Value.int IntKind.i64 p3] 29)) = W6 at *
        generalize w'.heap.size = g6 at *
        have hB := hB'
        have oo := o'
        clear hB' o'
        have oc := Ok.refl oo.1
        obtain ⟨⟨bg6, lg6⟩, ⟨bga, lga⟩, ⟨bgb, lgb⟩, -⟩ := id hB
        obtain ⟨fg60, fg61, fg62, fg63⟩ := bg6.quad
        obtain ⟨fga0, fga1, fga2, fga3⟩ := bga.quad
        obtain ⟨fgb0, fgb1, fgb2, fgb3⟩ := bgb.quad
        clear bg6 lg6 bga lga bgb lgb
        go_upto_region 14 with (go_at_call 8; ((with_reducible refine (KK.out _ _ oc).mono ?_); rintro e1 w' ⟨rfl, hk⟩; (try clear oc); have oc := hk; (try clear mg60 mg61 mg62 mg63 mga0 mga1 mga2 mga3 mgb0 mgb1 mgb2 mgb3); obtain ⟨⟨bg6, lg6⟩, ⟨bga, lga⟩, ⟨bgb, lgb⟩, -⟩ := hB.below hk.2; obtain ⟨mg60, mg61, mg62, mg63⟩ := bg6.quad; obtain ⟨mga0, mga1, mga2, mga3⟩ := bga.quad; obtain ⟨mgb0, mgb1, mgb2, mgb3⟩ := bgb.quad; clear bg6 lg6 bga lga bgb lgb; clear hk))
        have hB' := Bs.new (hB.below oc.2) q0 q1 q2 q3
        have o' := (oo.step oc.2).step (run_new w' q0 q1 q2 q3 _ rfl).2.2
        clear hB oo oc fg60 fg61 fg62 fg63 fga0 fga1 fga2 fga3 fgb0 fgb1 fgb2 fgb3 KK
        (try clear mg60 mg61 mg62 mg63 mga0 mga1 mga2 mga3 mgb0 mgb1 mgb2 mgb3)
        generalize (w'.alloc (Obj.cells #[Value.int IntKind.i8 q0, Value.int IntKind.i64 q1, Value.int IntKind.i8 q2, Value.int IntKind.i64 q3] 29)) = W7 at *
        generalize w'.heap.size = g7 at *
        have hB := hB'
        have oo := o'
        clear hB' o'
        have oc := Ok.refl oo.1
        obtain ⟨⟨bg7, lg7⟩, ⟨bg6, lg6⟩, ⟨bga, lga⟩, ⟨bgb, lgb⟩, -⟩ := id hB
        obtain ⟨fg70, fg71, fg72, fg73⟩ := bg7.quad
        obtain ⟨fg60, fg61, fg62, fg63⟩ := bg6.quad
        obtain ⟨fga0, fga1, fga2, fga3⟩ := bga.quad
        obtain ⟨fgb0, fgb1, fgb2, fgb3⟩ := bgb.quad
        clear bg7 lg7 bg6 lg6 bga lga bgb lgb
        cases bo
        · cases ne
          · obtain rfl : t = false := by simpa using h1.symm
            go_wp2_with (first
                  | (go_at_call 9; ((with_reducible refine (KT.out _ _ oc).mono ?_); rintro e1 w' ⟨rfl, hk⟩; (try clear oc); have oc := hk; (try clear mg70 mg71 mg72 mg73 mg60 mg61 mg62 mg63 mga0 mga1 mga2 mga3 mgb0 mgb1 mgb2 mgb3); obtain ⟨⟨bg7, lg7⟩, ⟨bg6, lg6⟩, ⟨bga, lga⟩, ⟨bgb, lgb⟩, -⟩ := hB.below hk.2; obtain ⟨mg70, mg71, mg72, mg73⟩ := bg7.quad; obtain ⟨mg60, mg61, mg62, mg63⟩ := bg6.quad; obtain ⟨mga0, mga1, mga2, mga3⟩ := bga.quad; obtain ⟨mgb0, mgb1, mgb2, mgb3⟩ := bgb.quad; clear bg7 lg7 bg6 lg6 bga lga bgb lgb; clear hk))
                  | (go_at_call 10; ((with_reducible refine (KW.out _ _ oc).mono ?_); rintro e1 w' ⟨rfl, hk⟩; (try clear oc); have oc := hk; (try clear mg70 mg71 mg72 mg73 mg60 mg61 mg62 mg63 mga0 mga1 mga2 mga3 mgb0 mgb1 mgb2 mgb3); obtain ⟨⟨bg7, lg7⟩, ⟨bg6, lg6⟩, ⟨bga, lga⟩, ⟨bgb, lgb⟩, -⟩ := hB.below hk.2; obtain ⟨mg70, mg71, mg72, mg73⟩ := bg7.quad; obtain ⟨mg60, mg61, mg62, mg63⟩ := bg6.quad; obtain ⟨mga0, mga1, mga2, mga3⟩ := bga.quad; obtain ⟨mgb0, mgb1, mgb2, mgb3⟩ := bgb.quad; clear bg7 lg7 bg6 lg6 bga lga bgb lgb; clear hk))
                  | (go_at_call 11; ((with_reducible refine (KL.out _ _ oc).mono ?_); rintro e1 w' ⟨rfl, hk⟩; (try clear oc); have oc := hk; clear hk)))
            go_ret
            exact ⟨rfl, oo.step oc.2⟩
          · obtain rfl : t = true := by simpa using h1.symm
            go_wp2_with (first
                  | (go_at_call 9; ((with_reducible refine (KT.out _ _ oc).mono ?_); rintro e1 w' ⟨rfl, hk⟩; (try clear oc); have oc := hk; (try clear mg70 mg71 mg72 mg73 mg60 mg61 mg62 mg63 mga0 mga1 mga2 mga3 mgb0 mgb1 mgb2 mgb3); obtain ⟨⟨bg7, lg7⟩, ⟨bg6, lg6⟩, ⟨bga, lga⟩, ⟨bgb, lgb⟩, -⟩ := hB.below hk.2; obtain ⟨mg70, mg71, mg72, mg73⟩ := bg7.quad; obtain ⟨mg60, mg61, mg62, mg63⟩ := bg6.quad; obtain ⟨mga0, mga1, mga2, mga3⟩ := bga.quad; obtain ⟨mgb0, mgb1, mgb2, mgb3⟩ := bgb.quad; clear bg7 lg7 bg6 lg6 bga lga bgb lgb; clear hk))
                  | (go_at_call 10; ((with_reducible refine (KW.out _ _ oc).mono ?_); rintro e1 w' ⟨rfl, hk⟩; (try clear oc); have oc := hk; (try clear mg70 mg71 mg72 mg73 mg60 mg61 mg62 mg63 mga0 mga1 mga2 mga3 mgb0 mgb1 mgb2 mgb3); obtain ⟨⟨bg7, lg7⟩, ⟨bg6, lg6⟩, ⟨bga, lga⟩, ⟨bgb, lgb⟩, -⟩ := hB.below hk.2; obtain ⟨mg70, mg71, mg72, mg73⟩ := bg7.quad; obtain ⟨mg60, mg61, mg62, mg63⟩ := bg6.quad; obtain ⟨mga0, mga1, mga2, mga3⟩ := bga.quad; obtain ⟨mgb0, mgb1, mgb2, mgb3⟩ := bgb.quad; clear bg7 lg7 bg6 lg6 bga lga bgb lgb; clear hk))
                  | (go_at_call 11; ((with_reducible refine (KL.out _ _ oc).mono ?_); rintro e1 w' ⟨rfl, hk⟩; (try clear oc); have oc := hk; clear hk)))
            go_ret
            exact ⟨rfl, oo.step oc.2⟩
        · obtain rfl : t = true := by simpa using h1.symm
          go_wp2_with (first
                | (go_at_call 9; ((with_reducible refine (KT.out _ _ oc).mono ?_); rintro e1 w' ⟨rfl, hk⟩; (try clear oc); have oc := hk; (try clear mg70 mg71 mg72 mg73 mg60 mg61 mg62 mg63 mga0 mga1 mga2 mga3 mgb0 mgb1 mgb2 mgb3); obtain ⟨⟨bg7, lg7⟩, ⟨bg6, lg6⟩, ⟨bga, lga⟩, ⟨bgb, lgb⟩, -⟩ := hB.below hk.2; obtain ⟨mg70, mg71, mg72, mg73⟩ := bg7.quad; obtain ⟨mg60, mg61, mg62, mg63⟩ := bg6.quad; obtain ⟨mga0, mga1, mga2, mga3⟩ := bga.quad; obtain ⟨mgb0, mgb1, mgb2, mgb3⟩ := bgb.quad; clear bg7 lg7 bg6 lg6 bga lga bgb lgb; clear hk))
                | (go_at_call 10; ((with_reducible refine (KW.out _ _ oc).mono ?_); rintro e1 w' ⟨rfl, hk⟩; (try clear oc); have oc := hk; (try clear mg70 mg71 mg72 mg73 mg60 mg61 mg62 mg63 mga0 mga1 mga2 mga3 mgb0 mgb1 mgb2 mgb3); obtain ⟨⟨bg7, lg7⟩, ⟨bg6, lg6⟩, ⟨bga, lga⟩, ⟨bgb, lgb⟩, -⟩ := hB.below hk.2; obtain ⟨mg70, mg71, mg72, mg73⟩ := bg7.quad; obtain ⟨mg60, mg61, mg62, mg63⟩ := bg6.quad; obtain ⟨mga0, mga1, mga2, mga3⟩ := bga.quad; obtain ⟨mgb0, mgb1, mgb2, mgb3⟩ := bgb.quad; clear bg7 lg7 bg6 lg6 bga lga bgb lgb; clear hk))
                | (go_at_call 11; ((with_reducible refine (KL.out _ _ oc).mono ?_); rintro e1 w' ⟨rfl, hk⟩; (try clear oc); have oc := hk; clear hk)))
          go_ret
          exact ⟨rfl, oo.step oc.2⟩
end Go.Proofs.YtmbaohjekeiphaaDoor.run9
