/- The law on the parts of whatever year: the walk. -/
import Derived.Test.YtcabcmlnmpfhkaaDoorSeaPa
namespace Go.Proofs.YtcabcmlnmpfhkaaDoor.sea
open Go.RowKit

theorem c_is {w X : World} (h : Ok w X) (y : Int) {b : Bool} (hb : yr y = b) : Calls Tryd.prog 19 #[.int .i64 y] X fun x w' => x = .returned (.bool b) ∧ Ok w w' := by
  subst hb; exact (isR_any y X).mono fun _ _ ⟨p, q⟩ => ⟨p, q ▸ h⟩
theorem c_st {w X : World} (h : Ok w X) (y : Int) (hy : yr y = true) : Calls Tryd.prog 20 #[.int .i64 y] X fun x w' => x = .returned (.int .i64 (stI y)) ∧ Ok w w' :=
  (stR_any y X (by have := (yr_iff y).1 hy; omega) (by have := (yr_iff y).1 hy; omega)).mono fun _ _ ⟨p, q⟩ => ⟨p, q ▸ h⟩
theorem c_len {w X : World} (h : Ok w X) (y : Int) : Calls Tryd.prog 21 #[.int .i64 y] X fun x w' => x = .returned (.int .i64 (lenI y)) ∧ Ok w w' :=
  (lenR_any y X).mono fun _ _ ⟨p, q⟩ => ⟨p, q ▸ h⟩
set_option maxRecDepth 100000 in
set_option maxHeartbeats 8000000 in
theorem parts_out (y : Int) (w W : World) (hy : I64 y) (ho : Ok w W) (hyr : yr y = false) :
    Calls Tryd.prog 5 #[.int .i64 y] W fun e w' => e = .returned (.bool true) ∧ Ok w w' := by
  have hE : sE y 33 = 6 := by unfold sE; rw [if_pos (by decide), hyr]; rfl
  have KI : Hid (∀ X, Ok W X → Calls Tryd.prog 19 #[.int .i64 y] X fun x w' => x = .returned (.bool false) ∧ Ok W w') := fun X hX => c_is hX y hyr
  have KR : Hid (∀ X, Ok W X → Calls Tryd.prog 10 #[.int .i64 y, .int .i64 33] X fun x w' => x = .returned (.tuple #[D4 0 0, .int .i64 6]) ∧ Ok W w') := fun X hX => c_run hX y 33 hy (by unfold I64; omega) (rV_bad (by rw [hE]; decide) _) (rV_bad (by rw [hE]; decide) _) hE
  have hr := Ok.refl ho.1
  have HO := Lib.hid ho
  have HLi : Hid (∀ X, Ok W X → Calls Tryd.prog 13 #[] X fun x w' => x = .returned (.bool true) ∧ Ok W w') := fun X hX => lives_t W X hX
  clear ho hy hyr hE
  go_enter Tryd.func5, Tryd.ntmps5
  go_upto_region 3 with (first
    | (go_at_call 19; ((with_reducible refine (KI.out _ hr).mono ?_); rintro e w1 ⟨rfl, hk1⟩))
    | (go_at_call 10; ((with_reducible refine (KR.out _ hk1).mono ?_); rintro e w2 ⟨rfl, hk2⟩)))
  have o3 := hk2.step ((Below.refl _ _).alloc (Nat.le_refl _) (.cells #[.int .i8 0, .int .i64 0, .int .i8 0, .int .i64 0] 32))
  generalize (w2.alloc (Obj.cells #[Value.int IntKind.i8 0, Value.int IntKind.i64 0, Value.int IntKind.i8 0, Value.int IntKind.i64 0] 32)) = W3 at *
  go_wp2_with (go_at_call 13; ((with_reducible refine (HLi.out _ o3).mono ?_); rintro e w4 ⟨rfl, hk4⟩))
  go_ret
  exact ⟨rfl, HO.out.step hk4.2⟩
theorem row3_at (w : World) (a b c : Int) (t : TypeId) (k : Nat) (hk : w.heap.size = k) : Row3 k (w.alloc (.cells #[.int .i64 a, .int .i64 b, .int .i64 c] t)) [a, b, c] ∧ (w.alloc (.cells #[.int .i64 a, .int .i64 b, .int .i64 c] t)).heap.size = k + 1 ∧ Below k w (w.alloc (.cells #[.int .i64 a, .int .i64 b, .int .i64 c] t)) := by
  subst hk
  refine ⟨⟨by simp, fun i hi => ?_⟩, by simp, by go_grown⟩
  rw [cell_of_row _ _ i _ _ (0, 0) (heap_alloc_new w _)]
  match i, hi with
  | 0, _ | 1, _ | 2, _ => rfl
theorem ok_set4 {B X : World} (hs : Start B) (h : Ok B X) {g : Nat} (hg : B.heap.size ≤ g) (a b c d : Int) : Ok B ((((X.setCell ⟨g, 0, none⟩ (.int .i8 a)).setCell ⟨g, 1, none⟩ (.int .i64 b)).setCell ⟨g, 2, none⟩ (.int .i8 c)).setCell ⟨g, 3, none⟩ (.int .i64 d)) := by
  have hb : Below B.heap.size B ((((X.setCell ⟨g, 0, none⟩ (.int .i8 a)).setCell ⟨g, 1, none⟩ (.int .i64 b)).setCell ⟨g, 2, none⟩ (.int .i8 c)).setCell ⟨g, 3, none⟩ (.int .i64 d)) :=
    (((h.2.setCell (p := ⟨g, 0, none⟩) hg _).setCell (p := ⟨g, 1, none⟩) hg _).setCell (p := ⟨g, 2, none⟩) hg _).setCell (p := ⟨g, 3, none⟩) hg _
  exact ⟨hs.below hb, hb⟩
set_option maxRecDepth 100000 in
set_option maxHeartbeats 8000000 in
theorem parts_in (y : Int) (w W : World) (hy : I64 y) (ho : Ok w W) (hyr : yr y = true) :
    Calls Tryd.prog 5 #[.int .i64 y] W fun e w' => e = .returned (.bool true) ∧ Ok w w' := by
  have hyb := (yr_iff y).1 hyr
  have KI : Hid (∀ X, Ok W X → Calls Tryd.prog 19 #[.int .i64 y] X fun x w' => x = .returned (.bool true) ∧ Ok W w') := fun X hX => c_is hX y hyr
  have KS : Hid (∀ X, Calls Tryd.prog 20 #[.int .i64 y] X fun x w' => x = .returned (.int .i64 (mst y 0)) ∧ X = w') := fun X => stR_any y X (by omega) (by omega)
  have KL : Hid (∀ X, Calls Tryd.prog 21 #[.int .i64 y] X fun x w' => x = .returned (.int .i64 (lenI y)) ∧ X = w') := fun X => lenR_any y X
  have KR : Hid (∀ (i : Nat) (c : Int) B X, i < 3 → fiL.getD i 0 ≤ c → c ≤ laL.getD i 0 → Ok B X → Calls Tryd.prog 10 #[.int .i64 y, .int .i64 c] X fun x w' => x = .returned (.tuple #[D4 (mst y (pD i c)) (mst y (pD i (c + 1)) - 1), .int .i64 0]) ∧ Ok B w') := fun i c B X hi h1 h2 hX => by
    obtain ⟨p1, p2, p3, p4, p5⟩ := part_first i hi
    obtain ⟨e1, e2, e3⟩ := part_days hyr hi h1 h2
    exact c_run hX y c hy (by unfold I64; omega) e2 (by omega) e1
  have h12 : mst y 12 = mst y 0 + lenI y := by rw [mst_12, stI_succ]; rfl
  have H12 := Lib.hid h12
  have hbd : ∀ n, n ≤ 12 → -4000000000000000000 ≤ mst y n ∧ mst y n ≤ 4000000000000000000 := fun n hn => by
    have b1 := mst_lo y n
    have b2 := mst_hi y n
    have b3 := stI_bd y (by omega)
    omega
  have HBD := Lib.hid hbd
  have hr := Ok.refl ho.1
  have HO := Lib.hid ho
  have HLi : Hid (∀ X, Ok W X → Calls Tryd.prog 13 #[] X fun x w' => x = .returned (.bool true) ∧ Ok W w') := fun X hX => lives_t W X hX
  have HRy := Lib.hid hyr
  have HI6 := Lib.hid hy
  clear ho hyr h12 hbd hy
  obtain ⟨y0, y1⟩ := hyb
  go_enter Tryd.func5, Tryd.ntmps5
  go_upto_region 5 with (go_at_call 19; ((with_reducible refine (KI.out _ hr).mono ?_); rintro e w1 ⟨rfl, hk1⟩))
  obtain ⟨r1, s1, q1⟩ := row3_new w1 33 37 40 _ rfl
  generalize (w1.alloc (Obj.cells #[Value.int IntKind.i64 33, Value.int IntKind.i64 37, Value.int IntKind.i64 40] 3)) = W1 at *
  obtain ⟨r2, s2, q2⟩ := row3_new W1 36 39 41 _ s1
  generalize (W1.alloc (Obj.cells #[Value.int IntKind.i64 36, Value.int IntKind.i64 39, Value.int IntKind.i64 41] 3)) = W2 at *
  have hR1 : Row3 w1.heap.size W2 fiL := ⟨by omega, fun i hi => (q2.cell (p := ⟨w1.heap.size, i, none⟩) (by show w1.heap.size < _; omega)).trans (r1.2 i hi)⟩
  have hR2 : Row3 (w1.heap.size + 1) W2 laL := r2
  have o2 : Ok W W2 := hk1.step (q1.trans (q2.mono (by omega)))
  clear r1 r2 q1 q2 s1 s2 hk1 hr
  generalize w1.heap.size + 1 = p2 at *
  generalize w1.heap.size = p1 at *
  go_upto_region 6 with fail
  go_loopw [7] (fun iv wr => ∃ i : Nat, i ≤ 3 ∧ iv = .int .i64 i ∧ Ok W wr ∧ Row3 p1 wr fiL ∧ Row3 p2 wr laL) (fun iv _ => 3 - (intOf iv).toNat)
  case atStart => exact ⟨0, by omega, rfl, o2, hR1, hR2⟩
  case round =>
    clear o2 hR1 hR2
    obtain ⟨i, hi, rfl, o2, hR1, hR2⟩ := hrel
    by_cases hi3 : i = 3
    · subst hi3
      have hi1 : ¬ ((3 : Nat) : Int) < 3 := by omega
      have hr := Ok.refl o2.1
      have HOw := Lib.hid (HO.out.step o2.2)
      have OW := Lib.hid o2
      clear hR1 hR2 hi KI KS KL KR H12 HBD o2
      cases hy2 : yr (y + 1) with
      | false =>
        have KJ : Hid (∀ X, Calls Tryd.prog 19 #[.int .i64 (y + 1)] X fun x w' => x = .returned (.bool false) ∧ X = w') := fun X => by rw [← hy2]; exact isR_any (y + 1) X
        clear hy2
        go_wp2_with (first
          | (go_at_call 19; ((with_reducible refine (KJ.out _).mono ?_); rintro e w3 ⟨rfl, rfl⟩))
          | (go_at_call 13; ((with_reducible refine (HLi.out _ OW.out).mono ?_); rintro e w4 ⟨rfl, hk4⟩)))
        go_ret
        exact ⟨rfl, HO.out.step hk4.2⟩
      | true =>
        have KJ : Hid (∀ X, Calls Tryd.prog 19 #[.int .i64 (y + 1)] X fun x w' => x = .returned (.bool true) ∧ X = w') := fun X => by rw [← hy2]; exact isR_any (y + 1) X
        have HY2 := Lib.hid hy2
        clear hy2
        go_upto_region 21 with (go_at_call 19; ((with_reducible refine (KJ.out _).mono ?_); rintro e w3 ⟨rfl, rfl⟩))
        obtain ⟨hS, hb⟩ := rowS_new wr _ _ _ _ 3 42 rfl rfl rfl rfl
        have o3 := OW.out.step hb
        clear hb hr HOw OW KJ hi1
        generalize ((((wr.alloc (Obj.cells #[Value.int IntKind.i64 21, Value.int IntKind.i64 22, Value.int IntKind.i64 23, Value.int IntKind.i64 24] 3)).alloc (Obj.cells #[Value.int IntKind.i64 25, Value.int IntKind.i64 26, Value.int IntKind.i64 27, Value.int IntKind.i64 28] 3)).alloc (Obj.cells #[Value.int IntKind.i64 31, Value.int IntKind.i64 32, Value.int IntKind.i64 29, Value.int IntKind.i64 30] 3)).alloc (Obj.cells #[Value.slice (some { block := wr.heap.size, off := 0 }) 4 4, Value.slice (some { block := wr.heap.size + 1, off := 0 }) 4 4, Value.slice (some { block := wr.heap.size + 1 + 1, off := 0 }) 4 4] 42)) = X4 at *
        generalize wr.heap.size = g at *
        have KN : Hid (∀ i B X, i < 3 → Ok B X → ∃ h, Calls Tryd.prog 10 #[.int .i64 (y + 1), .int .i64 (sq i 0)] X fun x w' => x = .returned (.tuple #[D4 (sm y 14) h, .int .i64 0]) ∧ Ok B w') := fun i B X hi hX => by
          obtain ⟨e1, e2⟩ := sq_next HY2.out i hi
          obtain ⟨_, _, _, b1, b2⟩ := sq_fact i 0 hi (by omega)
          exact ⟨_, c_run hX (y + 1) (sq i 0) (by unfold I64; omega) (by unfold I64; omega) e2 rfl e1⟩
        have KQ : Hid (∀ i k B X, i < 3 → k < 4 → Ok B X → Calls Tryd.prog 10 #[.int .i64 y, .int .i64 (sq i k)] X fun x w' => x = .returned (.tuple #[D4 (sm y (3 * k + 2)) (sm y (3 * k + 5) - 1), .int .i64 0]) ∧ Ok B w') := fun i k B X hi hk hX => by
          obtain ⟨e1, e2, e3⟩ := sq_days HRy.out HY2.out i k hi hk
          obtain ⟨_, _, _, b1, b2⟩ := sq_fact i k hi hk
          exact c_run hX y (sq i k) (by unfold I64; omega) (by unfold I64; omega) e2 e3 e1
        have HSB := Lib.hid (fun j hj => sm_bd y0 y1 j hj)
        clear HRy HY2 HI6
        go_upto_region 22 with fail
        go_loopw [13] (fun iv wx => ∃ i : Nat, i ≤ 3 ∧ iv = .int .i64 i ∧ Ok W wx ∧ RowS wx g) (fun iv _ => 3 - (intOf iv).toNat)
        case atStart => exact ⟨0, by omega, rfl, o3, hS⟩
        case round =>
          clear o3 hS
          obtain ⟨i, hi, rfl, o3, hS⟩ := hrel
          by_cases hi3 : i = 3
          · subst hi3
            have hi1 : ¬ ((3 : Nat) : Int) < 3 := by omega
            clear hS KN KQ HSB
            go_wp2_with (go_at_call 13; ((with_reducible refine (HLi.out _ o3).mono ?_); rintro e w4 ⟨rfl, hk4⟩))
            go_ret
            exact ⟨rfl, HO.out.step hk4.2⟩
          · have hi2 : i < 3 := by omega
            have hi1 : (i : Int) < 3 := by omega
            have hi0 : (0 : Int) ≤ (i : Int) := by omega
            have c0 := hS.row i hi2
            have c1 := hS.code i 0 hi2 (by omega)
            have hr := Ok.refl o3.1
            have HS := Lib.hid hS
            have O3 := Lib.hid o3
            obtain ⟨h0, K0⟩ := KN.out i _ _ hi2 hr
            have K0' := Lib.hid K0
            clear K0 hS o3
            generalize hs0 : sq i 0 = s0 at *
            clear hs0
            go_upto_region 25 with (go_at_call 10; ((with_reducible refine K0'.out.mono ?_); rintro e w5 ⟨rfl, hk5⟩))
            have hBn := BkR.new w5 0 (sm y 14) 0 h0
            have o5 := hk5.step ((Below.refl _ w5).alloc (Nat.le_refl _) (.cells #[.int .i8 0, .int .i64 (sm y 14), .int .i8 0, .int .i64 h0] 32))
            have l5 : w5.heap.size < (w5.alloc (.cells #[.int .i8 0, .int .i64 (sm y 14), .int .i8 0, .int .i64 h0] 32)).heap.size := by simp
            have ln := hk5.2.size
            generalize (w5.alloc (Obj.cells #[Value.int IntKind.i8 0, Value.int IntKind.i64 (sm y 14), Value.int IntKind.i8 0, Value.int IntKind.i64 h0] 32)) = W5 at *
            generalize w5.heap.size = gn at *
            clear c0 c1 hk5 K0'
            go_upto_region 26 with fail
            go_loopw [16] (fun jv wx => ∃ j h : Int, -1 ≤ j ∧ j ≤ 3 ∧ jv = .int .i64 j ∧ BkR wx gn 0 (sm y (3 * j + 5).toNat) 0 h ∧ gn < wx.heap.size ∧ Ok wr wx) (fun jv _ => (intOf jv + 1).toNat)
            case atStart => exact ⟨3, h0, by omega, by omega, rfl, hBn, l5, o5⟩
            case round =>
              clear hBn l5 o5
              obtain ⟨j, h, hj0, hj1, rfl, hB, lg, hX⟩ := hrel
              by_cases hj : 0 ≤ j
              · obtain ⟨k, rfl⟩ : ∃ k : Nat, j = k := ⟨j.toNat, by omega⟩
                have hk4 : k < 4 := by omega
                have hk0 : (0 : Int) ≤ (k : Int) := by omega
                have hk5 : (k : Int) < 4 := by omega
                have hS := HS.out.below hX.2
                have c0 := hS.row i hi2
                have c1 := hS.code i k hi2 hk4
                have K1 := Lib.hid (KQ.out i k _ _ hi2 hk4 (Ok.refl hX.1))
                have HX := Lib.hid hX
                have e5 : (3 * (k : Int) + 5).toNat = 3 * k + 5 := by omega
                have e2 : (3 * ((k : Int) - 1) + 5).toNat = 3 * k + 2 := by omega
                rw [e5] at hB
                have E2 : Hid ((3 * ((k : Int) - 1) + 5).toNat = 3 * k + 2) := e2
                have bd := HSB.out (3 * k + 5) (by omega)
                obtain ⟨bd0, bd1⟩ := bd
                clear e5 e2 hS hX
                generalize hA : sm y (3 * k + 2) = A at *
                have HA := Lib.hid hA
                clear hA
                generalize sm y (3 * k + 5) = B at *
                generalize sq i k = s at *
                have hne : (B != B) = false := by simp
                go_upto_region 29 with (go_at_call 10; ((with_reducible refine K1.out.mono ?_); rintro e w6 ⟨rfl, hk6⟩))
                have hB6 := (hB.below lg hk6.2).below (Nat.lt_of_lt_of_le lg hk6.2.size) ((Below.refl _ w6).alloc (Nat.le_refl _) (.cells #[.int .i8 0, .int .i64 A, .int .i8 0, .int .i64 (B - 1)] 32))
                have hC6 := BkR.new w6 0 A 0 (B - 1)
                have o6 := (HX.out.step hk6.2).step ((Below.refl _ w6).alloc (Nat.le_refl _) (.cells #[.int .i8 0, .int .i64 A, .int .i8 0, .int .i64 (B - 1)] 32))
                have l6 : gn < (w6.alloc (.cells #[.int .i8 0, .int .i64 A, .int .i8 0, .int .i64 (B - 1)] 32)).heap.size := by have := hk6.2.size; simp; omega
                generalize (w6.alloc (Obj.cells #[Value.int IntKind.i8 0, Value.int IntKind.i64 A, Value.int IntKind.i8 0, Value.int IntKind.i64 (B - 1)] 32)) = W6 at *
                generalize w6.heap.size = g6 at *
                obtain ⟨m0, m1, m2, m3⟩ := hB6.four
                obtain ⟨n0, n1, n2, n3⟩ := hC6.four
                have z0 := hB6.frozen 0
                have z1 := hB6.frozen 1
                have z2 := hB6.frozen 2
                have z3 := hB6.frozen 3
                clear c0 c1 hk6 K1 hC6 hB
                have HB6 := Lib.hid hB6
                have O6 := Lib.hid o6
                clear hB6 o6
                go_wp2_with fail
                go_roundw
                case rel =>
                  refine ⟨(k : Int) - 1, B - 1, by omega, by omega, by go_num, ?_, by simpa using l6, ?_⟩
                  · rw [E2.out, HA.out]; exact HB6.out.store 0 A 0 (B - 1)
                  · exact ok_set4 O3.out.1 O6.out ln 0 A 0 (B - 1)
                case measure => simp [intOf]
              · have hje : j = -1 := by omega
                subst hje
                have O4 := Lib.hid (O3.out.step hX.2)
                have S4 := Lib.hid (HS.out.below hX.2)
                clear hB hX KN KQ HSB HS O3
                go_wp2_with fail
                go_roundw
                case rel => exact ⟨i + 1, by omega, by go_num, O4.out, S4.out⟩
                case measure => simp [intOf]; omega
    · have hi2 : i < 3 := by omega
      have hi1 : (i : Int) < 3 := by omega
      have hi0 : (0 : Int) ≤ (i : Int) := by omega
      obtain ⟨z1, z2, z3, z4, z5⟩ := part_first i hi2
      have c0 := hR1.2 i hi2
      have hr := Ok.refl o2.1
      have HR1 := Lib.hid hR1
      have HR2 := Lib.hid hR2
      have O2 := Lib.hid o2
      have hZ : Hid (fiL.getD i 0 ≤ laL.getD i 0 ∧ 33 ≤ fiL.getD i 0 ∧ laL.getD i 0 ≤ 41 ∧ pD i (fiL.getD i 0) = 0 ∧ pD i (laL.getD i 0 + 1) = 12) := ⟨z3, z4, z5, z1, z2⟩
      have HL : Hid (∀ X, Below wr.heap.size wr X → X.cell? ⟨p2, i, none⟩ = some (.int .i64 (laL.getD i 0))) := fun X hX => (hX.cell (p := ⟨p2, i, none⟩) hR2.1).trans (hR2.2 i hi2)
      have KRi : Hid (∀ (c : Int) B X, fiL.getD i 0 ≤ c → c ≤ laL.getD i 0 → Ok B X → Calls Tryd.prog 10 #[.int .i64 y, .int .i64 c] X fun x w' => x = .returned (.tuple #[D4 (mst y (pD i c)) (mst y (pD i (c + 1)) - 1), .int .i64 0]) ∧ Ok B w') := fun c B X => KR.out i c B X hi2
      have HPD : Hid (∀ c, fiL.getD i 0 ≤ c → c ≤ laL.getD i 0 → pD i (c + 1) ≤ 12) := fun c h1 h2 => (part_fact i hi2 c h1 h2).2.2.2.2.1
      clear z1 z2 z3 z4 z5 hR1 hR2 o2
      generalize fiL.getD i 0 = fi at *
      generalize laL.getD i 0 = la at *
      go_upto_region 10 with (go_at_call 20; ((with_reducible refine (KS.out _).mono ?_); rintro e w3 ⟨rfl, rfl⟩))
      clear c0
      go_loopw [8, 9] (fun dv cv wx => ∃ c : Int, fi ≤ c ∧ c ≤ la + 1 ∧ dv = .int .i64 (mst y (pD i c)) ∧ cv = .int .i64 c ∧ Ok wr wx) (fun _ cv _ => (50 - intOf cv).toNat)
      case atStart => exact ⟨fi, Int.le_refl _, by have := hZ.out.1; omega, by rw [hZ.out.2.2.2.1], rfl, hr⟩
      case round =>
        obtain ⟨c, h1, h2, rfl, rfl, hX⟩ := hrel
        have cl := HL.out _ hX.2
        have hb33 := hZ.out.2.1
        have hb41 := hZ.out.2.2.1
        by_cases hc : c ≤ la
        · have KR1 := Lib.hid (KRi.out c _ _ h1 hc (Ok.refl hX.1))
          have bd1 := HBD.out _ (HPD.out c h1 hc)
          have HX := Lib.hid hX
          clear hX
          obtain ⟨bd2, bd3⟩ := bd1
          have hne : (mst y (pD i c) != mst y (pD i c)) = false := by simp
          generalize hBe : mst y (pD i (c + 1)) = B at *
          have HBe := Lib.hid hBe
          clear hBe
          generalize mst y (pD i c) = A at *
          go_upto_region 13 with (go_at_call 10; ((with_reducible refine KR1.out.mono ?_); rintro e w4 ⟨rfl, hk4⟩))
          have hBn := BkR.new w4 0 A 0 (B - 1)
          have o4 := (HX.out.step hk4.2).step ((Below.refl _ w4).alloc (Nat.le_refl _) (.cells #[.int .i8 0, .int .i64 A, .int .i8 0, .int .i64 (B - 1)] 32))
          generalize (w4.alloc (Obj.cells #[Value.int IntKind.i8 0, Value.int IntKind.i64 A, Value.int IntKind.i8 0, Value.int IntKind.i64 (B - 1)] 32)) = W4 at *
          generalize w4.heap.size = g4 at *
          obtain ⟨m0, m1, m2, m3⟩ := hBn.four
          clear hBn hk4
          go_wp2_with fail
          go_roundw
          case rel => exact ⟨c + 1, by omega, by omega, by rw [HBe.out], by go_num, o4⟩
          case measure => simp [intOf]; omega
        · have hce : c = la + 1 := by omega
          have hpd : mst y (pD i c) = mst y 0 + lenI y := by rw [hce, hZ.out.2.2.2.2]; exact H12.out
          have bd1 := HBD.out 12 (by omega)
          rw [H12.out] at bd1
          have bd0 := HBD.out 0 (by omega)
          have bl := lenI_bd y
          have hne : (mst y (pD i c) != mst y 0 + lenI y) = false := by rw [hpd]; simp
          have R1 := Lib.hid (HR1.out.below hX.2)
          have R2 := Lib.hid (HR2.out.below hX.2)
          have OW := Lib.hid (O2.out.step hX.2)
          clear hpd hce HBD H12 KR KRi HPD hX
          generalize mst y (pD i c) = T at *
          generalize mst y 0 = A0 at *
          generalize lenI y = L at *
          obtain ⟨bd2, bd3⟩ := bd1
          obtain ⟨bd4, bd5⟩ := bd0
          obtain ⟨bd6, bd7⟩ := bl
          go_wp2_with (first
            | (go_at_call 20; ((with_reducible refine (KS.out _).mono ?_); rintro e w3 ⟨rfl, rfl⟩))
            | (go_at_call 21; ((with_reducible refine (KL.out _).mono ?_); rintro e w3 ⟨rfl, rfl⟩)))
          go_roundw
          case rel => exact ⟨i + 1, by omega, by go_num, OW.out, R1.out, R2.out⟩
          case measure => simp [intOf]; omega
theorem parts_law (y : Int) (w W : World) (hy : I64 y) (ho : Ok w W) :
    Calls Tryd.prog 5 #[.int .i64 y] W fun e w' => e = .returned (.bool true) ∧ Ok w w' := by
  cases h : yr y
  · exact parts_out y w W hy ho h
  · exact parts_in y w W hy ho h
end Go.Proofs.YtcabcmlnmpfhkaaDoor.sea
