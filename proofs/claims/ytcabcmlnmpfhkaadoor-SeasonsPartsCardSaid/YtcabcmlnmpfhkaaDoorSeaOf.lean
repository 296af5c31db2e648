/- The reference of seasons (circaref07): Of. -/
import Derived.Test.YtcabcmlnmpfhkaaDoorSeaRun
namespace Go.Proofs.YtcabcmlnmpfhkaaDoor
open Go.RowKit

/-- The run of a code in a year has a day. -/
def sIn (z c d : Int) : Bool := decide (sE z c = 0 ∧ sLo z c ≤ d ∧ d ≤ sHi z c)
def ofY (d c : Int) : Int := if sIn (yrOf d - 1) c d then yrOf d - 1 else if sIn (yrOf d) c d then yrOf d else 0
def ofB (d c : Int) : Bool := sIn (yrOf d - 1) c d || sIn (yrOf d) c d
theorem bkr_four (w : World) (a b c d : Int) : Four w.heap.size a b c d (w.alloc (.cells #[.int .i8 a, .int .i64 b, .int .i8 c, .int .i64 d] 32)) := (BkR.new w a b c d).four
theorem ret_yb {a b : Int} {p q : Bool} (h1 : a = b) (h2 : p = q) : Ending.returned (.tuple #[.int .i64 a, .bool p]) = .returned (.tuple #[.int .i64 b, .bool q]) := by rw [h1, h2]
set_option maxHeartbeats 1600000 in
set_option maxRecDepth 100000 in
theorem sofR_any (d c : Int) (w : World) (h0 : -9223372036854775808 ≤ d) (h1 : d ≤ 9223372036854775807) :
    Calls Tryd.prog 17 #[.int .i64 d, .int .i64 c] w fun e w' => e = .returned (.tuple #[.int .i64 (ofY d c), .bool (ofB d c)]) ∧ Below w.heap.size w w' := by
  have HO := Lib.hid (fun X => ofR_any d X h0 h1)
  have HR : Hid (∀ z X, Below w.heap.size w X → Calls Tryd.prog 11 #[.int .i64 z, .int .i64 c] X fun e w' => e = .returned (.tuple #[.agg #[.int .i8 0, .int .i64 (rV z c (sLo z c)), .int .i8 0, .int .i64 (rV z c (sHi z c))], .int .i64 (sE z c)]) ∧ Below w.heap.size w w') := fun z X hX =>
    (srunR_any z c X).mono fun _ _ ⟨p, q⟩ => ⟨p, hX.trans (q.mono hX.size)⟩
  have hyb := yrOf_bd d ⟨h0, h1⟩
  have HY : Hid (ofY d c = if sIn (yrOf d - 1) c d then yrOf d - 1 else if sIn (yrOf d) c d then yrOf d else 0) := rfl
  have HB : Hid (ofB d c = (sIn (yrOf d - 1) c d || sIn (yrOf d) c d)) := rfl
  generalize yr (yrOf d) = b at *
  generalize ofY d c = OY at *
  generalize ofB d c = OB at *
  generalize yrOf d = y at *
  obtain ⟨y0, y1⟩ := hyb
  go_enter Tryd.func17, Tryd.ntmps17
  go_wp2_with (go_at_call 16; refine (HO.out _).mono ?_; rintro e w' ⟨rfl, rfl⟩)
  go_loopw [8] (fun z wr => ∃ k : Nat, k ≤ 2 ∧ z = .int .i64 (y - 1 + k) ∧ Below w.heap.size w wr ∧ (1 ≤ k → sIn (y - 1) c d = false) ∧ (2 ≤ k → sIn y c d = false)) (fun z _ => (y + 5 - intOf z).toNat)
  case atStart => exact ⟨0, by omega, by go_num, Below.refl _ _, by omega, by omega⟩
  case round =>
    obtain ⟨k, hk, rfl, hX, hk1, hk2⟩ := hrel
    by_cases hk3 : k = 2
    · subst hk3
      have e1 := hk1 (by omega)
      have e2 := hk2 (by omega)
      have hl : ¬ y - 1 + ((2 : Nat) : Int) ≤ y := by omega
      have hYB : Hid (OY = 0 ∧ OB = false) := ⟨by rw [HY.out, e1, e2]; rfl, by rw [HB.out, e1, e2]; rfl⟩
      clear e1 e2 hk1 hk2 HY HB HR
      go_wp2_with fail
      go_ret2
      exact ⟨ret_yb hYB.out.1.symm hYB.out.2.symm, hX⟩
    · have hl : y - 1 + (k : Int) ≤ y := by omega
      have HRz := Lib.hid (HR.out (y - 1 + k) wr hX)
      have HT : Hid (sIn (y - 1 + k) c d = true → OY = y - 1 + k ∧ OB = true) := fun h => by
        rw [HY.out, HB.out]
        rcases (show k = 0 ∨ k = 1 by omega) with rfl | rfl
        · rw [show y - 1 + ((0 : Nat) : Int) = y - 1 by omega] at h ⊢
          rw [h]; exact ⟨rfl, rfl⟩
        · rw [show y - 1 + ((1 : Nat) : Int) = y by omega] at h ⊢
          rw [hk1 (by omega), h]; exact ⟨rfl, rfl⟩
      have HF : Hid (sIn (y - 1 + k) c d = false → (1 ≤ k + 1 → sIn (y - 1) c d = false) ∧ (2 ≤ k + 1 → sIn y c d = false)) := fun h => by
        rcases (show k = 0 ∨ k = 1 by omega) with rfl | rfl
        · rw [show y - 1 + ((0 : Nat) : Int) = y - 1 by omega] at h
          exact ⟨fun _ => h, by omega⟩
        · rw [show y - 1 + ((1 : Nat) : Int) = y by omega] at h
          exact ⟨fun _ => hk1 (by omega), fun _ => h⟩
      have hz2 : -9223372036854775808 ≤ y - 1 + (k : Int) ∧ y - 1 + (k : Int) + 1 ≤ 9223372036854775807 := by omega
      obtain ⟨z0, z1⟩ := hz2
      clear hk1 hk2 HY HB HR
      have hkz : y - 1 + (((k + 1 : Nat)) : Int) = y - 1 + (k : Int) + 1 := by omega
      have HKZ := Lib.hid hkz
      clear hkz
      generalize y - 1 + (k : Int) = z at *
      by_cases hE : sE z c = 0
      · have hv : ∀ v, rV z c v = v := fun v => if_pos hE
        rw [hv, hv, hE] at HRz
        clear hv
        have hsin : sIn z c d = decide (sLo z c ≤ d ∧ d ≤ sHi z c) := by unfold sIn; simp [hE]
        rw [hsin] at HT HF
        clear hsin hE
        generalize sLo z c = LO at *
        generalize sHi z c = HI at *
        by_cases ha : LO ≤ d
        · by_cases hb : d ≤ HI
          · have HR2 := Lib.hid (HT.out (decide_eq_true ⟨ha, hb⟩))
            clear HT HF
            go_upto_region 6 with (go_at_call 11; refine HRz.out.mono ?_; rintro e w' ⟨rfl, hbw⟩)
            have hBn := BkR.new w' 0 (LO) 0 (HI)
            obtain ⟨t0, t1, t2, t3⟩ := hBn.four
            have hX2 := hbw.trans (((Below.refl _ w').alloc (Nat.le_refl _) (.cells #[.int .i8 0, .int .i64 (LO), .int .i8 0, .int .i64 (HI)] 32)).mono hbw.size)
            generalize (w'.alloc (Obj.cells #[Value.int IntKind.i8 0, Value.int IntKind.i64 (LO), Value.int IntKind.i8 0, Value.int IntKind.i64 (HI)] 32)) = W1 at *
            generalize w'.heap.size = g1 at *
            clear hBn
            go_wp2_with fail
            go_ret2
            exact ⟨ret_yb HR2.out.1.symm HR2.out.2.symm, hX2⟩
          · have HR2 := Lib.hid (HF.out (decide_eq_false (fun q => hb q.2)))
            clear HT HF
            go_upto_region 6 with (go_at_call 11; refine HRz.out.mono ?_; rintro e w' ⟨rfl, hbw⟩)
            have hBn := BkR.new w' 0 (LO) 0 (HI)
            obtain ⟨t0, t1, t2, t3⟩ := hBn.four
            have hX2 := hbw.trans (((Below.refl _ w').alloc (Nat.le_refl _) (.cells #[.int .i8 0, .int .i64 (LO), .int .i8 0, .int .i64 (HI)] 32)).mono hbw.size)
            generalize (w'.alloc (Obj.cells #[Value.int IntKind.i8 0, Value.int IntKind.i64 (LO), Value.int IntKind.i8 0, Value.int IntKind.i64 (HI)] 32)) = W1 at *
            generalize w'.heap.size = g1 at *
            clear hBn
            go_wp2_with fail
            go_roundw
            case rel => exact ⟨k + 1, by omega, by rw [HKZ.out], hX2, HR2.out.1, HR2.out.2⟩
            case measure => simp [intOf]; omega
        · have HR2 := Lib.hid (HF.out (decide_eq_false (fun q => ha q.1)))
          clear HT HF
          go_upto_region 6 with (go_at_call 11; refine HRz.out.mono ?_; rintro e w' ⟨rfl, hbw⟩)
          have hBn := BkR.new w' 0 (LO) 0 (HI)
          obtain ⟨t0, t1, t2, t3⟩ := hBn.four
          have hX2 := hbw.trans (((Below.refl _ w').alloc (Nat.le_refl _) (.cells #[.int .i8 0, .int .i64 (LO), .int .i8 0, .int .i64 (HI)] 32)).mono hbw.size)
          generalize (w'.alloc (Obj.cells #[Value.int IntKind.i8 0, Value.int IntKind.i64 (LO), Value.int IntKind.i8 0, Value.int IntKind.i64 (HI)] 32)) = W1 at *
          generalize w'.heap.size = g1 at *
          clear hBn
          go_wp2_with fail
          go_roundw
          case rel => exact ⟨k + 1, by omega, by rw [HKZ.out], hX2, HR2.out.1, HR2.out.2⟩
          case measure => simp [intOf]; omega
      · have hsin : sIn z c d = false := by unfold sIn; simp [hE]
        have HR2 := Lib.hid (HF.out hsin)
        have hE1 : (sE z c == 0) = false := by rw [beq_eq_false_iff_ne]; exact hE
        clear HT HF hsin hE
        generalize sE z c = E at *
        generalize rV z c (sLo z c) = LO at *
        generalize rV z c (sHi z c) = HI at *
        go_upto_region 6 with (go_at_call 11; refine HRz.out.mono ?_; rintro e w' ⟨rfl, hbw⟩)
        have hBn := BkR.new w' 0 (LO) 0 (HI)
        obtain ⟨t0, t1, t2, t3⟩ := hBn.four
        have hX2 := hbw.trans (((Below.refl _ w').alloc (Nat.le_refl _) (.cells #[.int .i8 0, .int .i64 (LO), .int .i8 0, .int .i64 (HI)] 32)).mono hbw.size)
        generalize (w'.alloc (Obj.cells #[Value.int IntKind.i8 0, Value.int IntKind.i64 (LO), Value.int IntKind.i8 0, Value.int IntKind.i64 (HI)] 32)) = W1 at *
        generalize w'.heap.size = g1 at *
        clear hBn
        go_wp2_with fail
        go_roundw
        case rel => exact ⟨k + 1, by omega, by rw [HKZ.out], hX2, HR2.out.1, HR2.out.2⟩
        case measure => simp [intOf]; omega
end Go.Proofs.YtcabcmlnmpfhkaaDoor
