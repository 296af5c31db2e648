/- The contracts from world to world; the examples of the chapter (lives). -/
import Derived.Test.YtcabcmlnmpfhkaaDoorSeaL
namespace Go.Proofs.YtcabcmlnmpfhkaaDoor.sea
open Go.RowKit

theorem c_eq {f : FuncId} {args : Array Value} {w W : World} {u v : Value} (h : Ok w W) (hv : u = v)
    (hc : Calls Tryd.prog f args W fun x w' => x = .returned u ∧ Below W.heap.size W w') :
    Calls Tryd.prog f args W fun x w' => x = .returned v ∧ Ok w w' := by
  subst hv
  exact hc.mono fun _ _ ⟨h1, h2⟩ => ⟨h1, h.step h2⟩
abbrev D4 (a b : Int) : Value := .agg #[.int .i8 0, .int .i64 a, .int .i8 0, .int .i64 b]
section
variable {w X : World} (h : Ok w X)
include h
theorem c_check (c : Int) (hc : I64 c) {e : Int} (he : kE c = e) : Calls Tryd.prog 9 #[.int .i64 c] X fun x w' => x = .returned (.int .i64 e) ∧ Ok w w' := c_eq h (by rw [he]) (sea_check c X hc)
theorem c_months (c : Int) (hc : I64 c) {a b e : Int} (ha : (sF c : Nat) = a) (hb : (sN c : Nat) = b) (he : kE c = e) : Calls Tryd.prog 7 #[.int .i64 c] X fun x w' => x = .returned (.tuple #[.int .i64 a, .int .i64 b, .int .i64 e]) ∧ Ok w w' := c_eq h (by rw [ha, hb, he]) (sea_months c X h.1 hc)
theorem c_run (y c : Int) (hy : I64 y) (hc : I64 c) {a b e : Int} (ha : rV y c (sLo y c) = a) (hb : rV y c (sHi y c) = b) (he : sE y c = e) : Calls Tryd.prog 10 #[.int .i64 y, .int .i64 c] X fun x w' => x = .returned (.tuple #[D4 a b, .int .i64 e]) ∧ Ok w w' := c_eq h (by rw [ha, hb, he]; rfl) (sea_run y c X h.1 hy hc)
theorem c_of (d c : Int) (hd : I64 d) (hc : I64 c) {y e : Int} {b : Bool} (hy : oY d c = y) (hb : oB d c = b) (he : oE d c = e) : Calls Tryd.prog 14 #[.int .i64 d, .int .i64 c] X fun x w' => x = .returned (.tuple #[.int .i64 y, .bool b, .int .i64 e]) ∧ Ok w w' := c_eq h (by rw [hy, hb, he]) (sea_of d c X h.1 hd hc)
theorem c_days (a b : Int) : Calls Tryd.prog 27 #[.int .i64 a, .int .i64 b] X fun x w' => x = .returned (D4 a b) ∧ Ok w w' := c_eq h rfl (days_any a b X)
theorem c_rok {a b c d e bad : Int} (h1 : a = c) (h2 : b = d) (h3 : e = 0) (h4 : bad = 0) : Calls Tryd.prog 12 #[D4 a b, .int .i64 e, D4 c d, .int .i64 bad] X fun x w' => x = .returned (.bool true) ∧ Ok w w' := by
  subst h1 h2 h3 h4; exact c_eq h rfl (runL_ok 0 a 0 b X)
theorem c_rbad {a b c d e bad : Int} (h0 : a = 0) (h1 : b = 0) (h2 : e ≠ 0) (h3 : e = bad) : Calls Tryd.prog 12 #[D4 a b, .int .i64 e, D4 c d, .int .i64 bad] X fun x w' => x = .returned (.bool true) ∧ Ok w w' := by
  subst h0 h1 h3; exact c_eq h rfl (runL_bad e 0 c 0 d X h2)
end
theorem c_codes {w X : World} (h : Ok w X) (d : Int) (hd : I64 d) {e : Int} (he : dE d = e) : Calls Tryd.prog 15 #[.int .i64 d] X fun x w' => ∃ v, x = .returned (.tuple #[v, .int .i64 e]) ∧ Ok w w' ∧ (∃ a n, v = .slice a (codesL d).length n) ∧ (yr (yrOf d) = true → IsL w' v (codesL d)) := by
  subst he
  exact (sea_codes d X h.1 hd).mono fun _ _ ⟨v, h1, h2, h3, h4⟩ => ⟨v, h1, h.step h2, h3, h4⟩

theorem x21 : sE 2000 21 = 0 ∧ rV 2000 21 (sLo 2000 21) = 730545 ∧ rV 2000 21 (sHi 2000 21) = 730636 := by decide +kernel
theorem x24 : sE 1999 24 = 0 ∧ rV 1999 24 (sLo 1999 24) = 730454 ∧ rV 1999 24 (sHi 1999 24) = 730544 := by decide +kernel
theorem xw : sE 10000000000000000 24 = 6 ∧ rV 10000000000000000 24 (sLo 10000000000000000 24) = 0 ∧ rV 10000000000000000 24 (sHi 10000000000000000 24) = 0 := by decide +kernel
theorem xq : sE 10000000000000000 36 = 0 ∧ rV 10000000000000000 36 (sLo 10000000000000000 36) = 3652425000000000274 ∧ rV 10000000000000000 36 (sHi 10000000000000000 36) = 3652425000000000365 := by decide +kernel
theorem xo1 : oY 730485 24 = 1999 ∧ oB 730485 24 = true ∧ oE 730485 24 = 0 := by decide +kernel
theorem xo2 : oY 730485 33 = 2000 ∧ oB 730485 33 = true ∧ oE 730485 33 = 0 := by decide +kernel
theorem xo3 : oY 730485 21 = 0 ∧ oB 730485 21 = false ∧ oE 730485 21 = 0 := by decide +kernel
theorem xc : codesL 730485 = [24, 28, 30, 33, 37, 40] := by decide +kernel
theorem xm : ∀ i : Fin 3, (sF ([24, 38, 41].getD i 0) : Int) = [12, 5, 7].getD i 0 ∧ (sN ([24, 38, 41].getD i 0) : Int) = [3, 4, 6].getD i 0 ∧ kE ([24, 38, 41].getD i 0) = 0 := by decide +kernel

/-- A row of three numbers. -/
def Row3 (p : Nat) (X : World) (l : List Int) : Prop := p < X.heap.size ∧ ∀ i, i < 3 → X.cell? ⟨p, i, none⟩ = some (.int .i64 (l.getD i 0))
theorem Row3.below {p : Nat} {X Y : World} {l : List Int} (h : Row3 p X l) (hb : Below X.heap.size X Y) : Row3 p Y l :=
  ⟨Nat.lt_of_lt_of_le h.1 hb.size, fun i hi => (hb.cell (p := ⟨p, i, none⟩) h.1).trans (h.2 i hi)⟩
theorem row3_new (w : World) (a b c : Int) (k : Nat) (hk : w.heap.size = k) : Row3 k (w.alloc (.cells #[.int .i64 a, .int .i64 b, .int .i64 c] 3)) [a, b, c] ∧ (w.alloc (.cells #[.int .i64 a, .int .i64 b, .int .i64 c] 3)).heap.size = k + 1 ∧ Below k w (w.alloc (.cells #[.int .i64 a, .int .i64 b, .int .i64 c] 3)) := by
  subst hk
  refine ⟨⟨by simp, fun i hi => ?_⟩, by simp, by go_grown⟩
  rw [cell_of_row _ _ i _ _ (0, 0) (heap_alloc_new w _)]
  match i, hi with
  | 0, _ | 1, _ | 2, _ => rfl
/-- The four runs of the examples. -/
structure Ex4 (X : World) (g1 g2 g3 g4 : Nat) : Prop where
  b1 : BkR X g1 0 730545 0 730636
  b2 : BkR X g2 0 730454 0 730544
  b3 : BkR X g3 0 0 0 0
  b4 : BkR X g4 0 3652425000000000274 0 3652425000000000365
  l1 : g1 < X.heap.size
  l2 : g2 < X.heap.size
  l3 : g3 < X.heap.size
  l4 : g4 < X.heap.size
theorem run_at {w : World} (k : Nat) (hk : w.heap.size = k) (a b c d : Int) : BkR (w.alloc (.cells #[.int .i8 a, .int .i64 b, .int .i8 c, .int .i64 d] 32)) k a b c d ∧ (w.alloc (.cells #[.int .i8 a, .int .i64 b, .int .i8 c, .int .i64 d] 32)).heap.size = k + 1 ∧ Below k w (w.alloc (.cells #[.int .i8 a, .int .i64 b, .int .i8 c, .int .i64 d] 32)) := by
  subst hk
  exact ⟨BkR.new w a b c d, by simp, by go_grown⟩
theorem lis6_new (W : World) : LisC (W.alloc (.cells #[.int .i64 24, .int .i64 28, .int .i64 30, .int .i64 33, .int .i64 37, .int .i64 40] 3)) (some ⟨W.heap.size, 0, none⟩) [24, 28, 30, 33, 37, 40] := fun _ => by
  refine ⟨W.heap.size, 0, rfl, by simp, fun i z hz => ?_⟩
  rw [Nat.zero_add, cell_of_row _ _ i _ _ (0, 0) (heap_alloc_new W _)]
  match i, hz with
  | 0, hz | 1, hz | 2, hz | 3, hz | 4, hz | 5, hz => simp at hz; subst hz; rfl
  | n + 6, hz => simp at hz
set_option maxRecDepth 100000 in
set_option maxHeartbeats 8000000 in
theorem lives_t (w W : World) (h0 : Ok w W) : Calls Tryd.prog 13 #[] W fun e w' => e = .returned (.bool true) ∧ Ok w w' := by
  have ho := h0
  clear h0
  go_enter Tryd.func13, Tryd.ntmps13
  go_upto_region 3 with fail
  obtain ⟨r1, s1, q1⟩ := row3_new W 24 38 41 _ rfl
  generalize (W.alloc (Obj.cells #[Value.int IntKind.i64 24, Value.int IntKind.i64 38, Value.int IntKind.i64 41] 3)) = W1 at *
  obtain ⟨r2, s2, q2⟩ := row3_new W1 12 5 7 _ s1
  generalize (W1.alloc (Obj.cells #[Value.int IntKind.i64 12, Value.int IntKind.i64 5, Value.int IntKind.i64 7] 3)) = W2 at *
  obtain ⟨r3, s3, q3⟩ := row3_new W2 3 4 6 _ s2
  generalize (W2.alloc (Obj.cells #[Value.int IntKind.i64 3, Value.int IntKind.i64 4, Value.int IntKind.i64 6] 3)) = W3 at *
  have hR1 : Row3 W.heap.size W3 [24, 38, 41] := ⟨by omega, fun i hi => (((q2.trans (q3.mono (by omega))).cell (p := ⟨W.heap.size, i, none⟩) (by show W.heap.size < _; omega))).trans (r1.2 i hi)⟩
  have hR2 : Row3 (W.heap.size + 1) W3 [12, 5, 7] := ⟨by omega, fun i hi => (q3.cell (p := ⟨W.heap.size + 1, i, none⟩) (by show W.heap.size + 1 < _; omega)).trans (r2.2 i hi)⟩
  have hR3 := r3
  have ho3 : Ok w W3 := ho.step (q1.trans ((q2.mono (by omega)).trans (q3.mono (by omega))))
  clear r1 r2 r3 q1 q2 q3 s1 s2 s3 ho
  generalize W.heap.size + 1 + 1 = p3 at *
  generalize W.heap.size + 1 = p2 at *
  generalize W.heap.size = p1 at *
  go_loopw [4] (fun iv wr => ∃ i : Nat, i ≤ 3 ∧ iv = .int .i64 i ∧ Ok w wr ∧ Row3 p1 wr [24, 38, 41] ∧ Row3 p2 wr [12, 5, 7] ∧ Row3 p3 wr [3, 4, 6]) (fun iv _ => 3 - (intOf iv).toNat)
  case atStart => exact ⟨0, by omega, rfl, ho3, hR1, hR2, hR3⟩
  case round =>
    clear hR1 hR2 hR3 ho3
    obtain ⟨i, hi, rfl, ho, hR1, hR2, hR3⟩ := hrel
    by_cases hi3 : i = 3
    · subst hi3
      clear hR1 hR2 hR3 hi
      have hi1 : ¬ ((3 : Nat) : Int) < 3 := by omega
      have o0 := ho
      have hr0 := Ok.refl ho.1
      clear ho
      go_upto_region 9 with (go_at_call 7; ((with_reducible refine (c_months (w := wr) hr0 20 (by unfold I64; omega) (a := 0) (b := 0) (e := 7) (by decide +kernel) (by decide +kernel) (by decide +kernel)).mono ?_); rintro e w0 ⟨rfl, hk⟩))
      have hr1 := Ok.refl (o0.step hk.2).1
      replace o0 := o0.step hk.2
      clear hk hr0
      go_upto_region 10 with (go_at_call 10; ((with_reducible refine (c_run (w := w0) hr1 (2000) 21 (by unfold I64; omega) (by unfold I64; omega) x21.2.1 x21.2.2 x21.1).mono ?_); rintro e w' ⟨rfl, hk⟩))
      obtain ⟨b1, s1, a1⟩ := run_at _ (rfl : w'.heap.size = w'.heap.size) 0 (730545) 0 (730636)
      have d1 := hk.2.trans (a1.mono hk.2.size)
      generalize (w'.alloc (Obj.cells #[Value.int IntKind.i8 0, Value.int IntKind.i64 (730545), Value.int IntKind.i8 0, Value.int IntKind.i64 (730636)] 32)) = X1 at *
      have v1 : w0.heap.size ≤ w'.heap.size := hk.2.size
      generalize w'.heap.size = g1 at *
      have o1 := (o0.step d1)
      have hr2 := Ok.refl o1.1
      clear hk a1 hr1
      go_upto_region 11 with (go_at_call 10; ((with_reducible refine (c_run (w := X1) hr2 (1999) 24 (by unfold I64; omega) (by unfold I64; omega) x24.2.1 x24.2.2 x24.1).mono ?_); rintro e w' ⟨rfl, hk⟩))
      obtain ⟨b2, s2, a2⟩ := run_at _ (rfl : w'.heap.size = w'.heap.size) 0 (730454) 0 (730544)
      have d2 := hk.2.trans (a2.mono hk.2.size)
      generalize (w'.alloc (Obj.cells #[Value.int IntKind.i8 0, Value.int IntKind.i64 (730454), Value.int IntKind.i8 0, Value.int IntKind.i64 (730544)] 32)) = X2 at *
      have v2 : X1.heap.size ≤ w'.heap.size := hk.2.size
      generalize w'.heap.size = g2 at *
      have o2 := (o1.step d2)
      have hr3 := Ok.refl o2.1
      clear hk a2 hr2
      go_upto_region 12 with (go_at_call 10; ((with_reducible refine (c_run (w := X2) hr3 (10000000000000000) 24 (by unfold I64; omega) (by unfold I64; omega) xw.2.1 xw.2.2 xw.1).mono ?_); rintro e w' ⟨rfl, hk⟩))
      obtain ⟨b3, s3, a3⟩ := run_at _ (rfl : w'.heap.size = w'.heap.size) 0 (0) 0 (0)
      have d3 := hk.2.trans (a3.mono hk.2.size)
      generalize (w'.alloc (Obj.cells #[Value.int IntKind.i8 0, Value.int IntKind.i64 (0), Value.int IntKind.i8 0, Value.int IntKind.i64 (0)] 32)) = X3 at *
      have v3 : X2.heap.size ≤ w'.heap.size := hk.2.size
      generalize w'.heap.size = g3 at *
      have o3 := (o2.step d3)
      have hr4 := Ok.refl o3.1
      clear hk a3 hr3
      go_upto_region 13 with (go_at_call 10; ((with_reducible refine (c_run (w := X3) hr4 (10000000000000000) 36 (by unfold I64; omega) (by unfold I64; omega) xq.2.1 xq.2.2 xq.1).mono ?_); rintro e w' ⟨rfl, hk⟩))
      obtain ⟨b4, s4, a4⟩ := run_at _ (rfl : w'.heap.size = w'.heap.size) 0 (3652425000000000274) 0 (3652425000000000365)
      have d4 := hk.2.trans (a4.mono hk.2.size)
      generalize (w'.alloc (Obj.cells #[Value.int IntKind.i8 0, Value.int IntKind.i64 (3652425000000000274), Value.int IntKind.i8 0, Value.int IntKind.i64 (3652425000000000365)] 32)) = X4 at *
      have v4 : X3.heap.size ≤ w'.heap.size := hk.2.size
      generalize w'.heap.size = g4 at *
      have o4 := (o3.step d4)
      have hr5 := Ok.refl o4.1
      clear hk a4 hr4
      have hE : Ex4 X4 g1 g2 g3 g4 := ⟨(b1.below (by omega) (d2.mono (Nat.le_refl _))).below (by omega) d3 |>.below (by omega) d4, (b2.below (by omega) d3).below (by omega) d4, b3.below (by omega) d4, b4, by omega, by omega, by omega, by omega⟩
      clear b1 b2 b3 b4 d1 d2 d3 d4 s1 s2 s3 s4 v1 v2 v3 v4 o0 o1 o2 o3 hi1
      obtain ⟨f10, f11, f12, f13⟩ := hE.b1.four
      obtain ⟨f20, f21, f22, f23⟩ := hE.b2.four
      obtain ⟨f30, f31, f32, f33⟩ := hE.b3.four
      obtain ⟨f40, f41, f42, f43⟩ := hE.b4.four
      go_cut [110] (fun sb wx => sb = .bool false ∧ Below X4.heap.size X4 wx)
      case first =>
        go_region_held3 (fun w' => w'.cell? ⟨g1, 0, none⟩ = some (.int .i8 0) ∧ w'.cell? ⟨g1, 1, none⟩ = some (.int .i64 730545) ∧ w'.cell? ⟨g1, 2, none⟩ = some (.int .i8 0) ∧ w'.cell? ⟨g1, 3, none⟩ = some (.int .i64 730636) ∧ w'.cell? ⟨g2, 0, none⟩ = some (.int .i8 0) ∧ w'.cell? ⟨g2, 1, none⟩ = some (.int .i64 730454) ∧ w'.cell? ⟨g2, 2, none⟩ = some (.int .i8 0) ∧ w'.cell? ⟨g2, 3, none⟩ = some (.int .i64 730544) ∧ w'.cell? ⟨g3, 0, none⟩ = some (.int .i8 0) ∧ w'.cell? ⟨g3, 1, none⟩ = some (.int .i64 0) ∧ w'.cell? ⟨g3, 2, none⟩ = some (.int .i8 0) ∧ w'.cell? ⟨g3, 3, none⟩ = some (.int .i64 0) ∧ w'.cell? ⟨g4, 0, none⟩ = some (.int .i8 0) ∧ w'.cell? ⟨g4, 1, none⟩ = some (.int .i64 3652425000000000274) ∧ w'.cell? ⟨g4, 2, none⟩ = some (.int .i8 0) ∧ w'.cell? ⟨g4, 3, none⟩ = some (.int .i64 3652425000000000365)) (go_keep)
          (first
            | (go_at_call 27; ((with_reducible refine (c_days (w := X4) (hr5.step (by go_grown)) _ _).mono ?_); rintro e w' ⟨rfl, hk⟩; have hX := hk.2; obtain ⟨m10, m11, m12, m13⟩ := (hE.b1.below hE.l1 hk.2).four; obtain ⟨m20, m21, m22, m23⟩ := (hE.b2.below hE.l2 hk.2).four; obtain ⟨m30, m31, m32, m33⟩ := (hE.b3.below hE.l3 hk.2).four; obtain ⟨m40, m41, m42, m43⟩ := (hE.b4.below hE.l4 hk.2).four))
            | (go_at_call 12; ((with_reducible refine (c_rok (w := X4) (hr5.step (by go_grown)) (by rfl) (by rfl) (by rfl) (by rfl)).mono ?_); rintro e w' ⟨rfl, hk⟩; have hX := hk.2; obtain ⟨m10, m11, m12, m13⟩ := (hE.b1.below hE.l1 hk.2).four; obtain ⟨m20, m21, m22, m23⟩ := (hE.b2.below hE.l2 hk.2).four; obtain ⟨m30, m31, m32, m33⟩ := (hE.b3.below hE.l3 hk.2).four; obtain ⟨m40, m41, m42, m43⟩ := (hE.b4.below hE.l4 hk.2).four))
            | (go_at_call 12; ((with_reducible refine (c_rbad (w := X4) (hr5.step (by go_grown)) (by rfl) (by rfl) (by decide) (by rfl)).mono ?_); rintro e w' ⟨rfl, hk⟩; have hX := hk.2; obtain ⟨m10, m11, m12, m13⟩ := (hE.b1.below hE.l1 hk.2).four; obtain ⟨m20, m21, m22, m23⟩ := (hE.b2.below hE.l2 hk.2).four; obtain ⟨m30, m31, m32, m33⟩ := (hE.b3.below hE.l3 hk.2).four; obtain ⟨m40, m41, m42, m43⟩ := (hE.b4.below hE.l4 hk.2).four)))
        all_goals
          go_wp2_with fail
          go_meet
          exact ⟨rfl, hX⟩
      case rest =>
        obtain ⟨rfl, hX⟩ := hcut
        have o5 := o4.step hX
        have hr6 := Ok.refl o5.1
        clear hr5 f10 f11 f12 f13 f20 f21 f22 f23 f30 f31 f32 f33 f40 f41 f42 f43 hX o4 hE
        go_upto_region 16 with (go_at_call 14; ((with_reducible refine (c_of (w := wc) hr6 730485 24 (by unfold I64; omega) (by unfold I64; omega) xo1.1 xo1.2.1 xo1.2.2).mono ?_); rintro e w5 ⟨rfl, hk⟩))
        have o6 := o5.step hk.2
        have hr7 := Ok.refl o6.1
        clear hk hr6 o5
        go_upto_region 17 with (go_at_call 14; ((with_reducible refine (c_of (w := w5) hr7 730485 33 (by unfold I64; omega) (by unfold I64; omega) xo2.1 xo2.2.1 xo2.2.2).mono ?_); rintro e w6 ⟨rfl, hk⟩))
        have o7 := o6.step hk.2
        have hr8 := Ok.refl o7.1
        clear hk hr7 o6
        go_upto_region 18 with (go_at_call 14; ((with_reducible refine (c_of (w := w6) hr8 730485 21 (by unfold I64; omega) (by unfold I64; omega) xo3.1 xo3.2.1 xo3.2.2).mono ?_); rintro e w7 ⟨rfl, hk⟩))
        have o8 := o7.step hk.2
        have hr9 := Ok.refl o8.1
        clear hk hr8 o7
        go_upto_region 19 with (go_at_call 15; ((with_reducible refine (c_codes (w := w7) hr9 730485 (by unfold I64; omega) (e := 0) (by decide +kernel)).mono ?_); rintro e w8 ⟨v, rfl, hk, -, hL⟩))
        obtain ⟨av, rfl, hLc⟩ := hL (by decide +kernel)
        rw [xc] at hLc ⊢
        have hLa : LisC w8 av [24, 28, 30, 33, 37, 40] := hLc
        have o9 := o8.step hk.2
        clear hk hr9 o8 hL hLc
        go_wp2_with fail
        refine (list_t [24, 28, 30, 33, 37, 40] av _ 6 _ (by decide) (hLa.below ((Below.refl _ _).alloc (Nat.le_refl _) _)) (lis6_new w8)).mono ?_
        rintro e w9 ⟨rfl, hb9⟩
        go_wp2_with fail
        go_ret
        exact ⟨rfl, o9.step (((Below.refl _ _).alloc (Nat.le_refl _) _).trans (hb9.mono (by simp)))⟩
    · have hi2 : i < 3 := by omega
      have hi1 : (i : Int) < 3 := by omega
      have hi0 : (0 : Int) ≤ (i : Int) := by omega
      obtain ⟨x1, x2, x3⟩ := xm ⟨i, hi2⟩
      have c0 := hR1.2 i hi2
      have c1 := hR2.2 i hi2
      have c2 := hR3.2 i hi2
      have hcb : I64 ([24, 38, 41].getD i 0) := by
        rcases (show i = 0 ∨ i = 1 ∨ i = 2 by omega) with rfl | rfl | rfl <;> (constructor <;> decide)
      have KM := Lib.hid (c_months (Ok.refl ho.1) ([24, 38, 41].getD i 0) hcb x1 x2 x3)
      have H1 := Lib.hid hR1
      have H2 := Lib.hid hR2
      have H3 := Lib.hid hR3
      have HO := Lib.hid ho
      have l2 := hR2.1
      have l3 := hR3.1
      clear x1 x2 x3 hcb hR1 hR2 hR3 ho
      generalize ([24, 38, 41] : List Int).getD i 0 = cc at *
      generalize ([12, 5, 7] : List Int).getD i 0 = ca at *
      generalize ([3, 4, 6] : List Int).getD i 0 = cb at *
      have e1 : (ca != ca) = false := by simp
      have e2 : (cb != cb) = false := by simp
      go_wp2_with (go_at_call 7; refine KM.out.mono ?_; rintro e w' ⟨rfl, hk⟩; have k1 := (hk.2.cell (p := ⟨p2, i, none⟩) l2).trans c1; have k2 := (hk.2.cell (p := ⟨p3, i, none⟩) l3).trans c2)
      go_roundw
      case rel => exact ⟨i + 1, by omega, by go_num, HO.out.step hk.2, H1.out.below hk.2, H2.out.below hk.2, H3.out.below hk.2⟩
      case measure => simp [intOf]; omega
end Go.Proofs.YtcabcmlnmpfhkaaDoor.sea
