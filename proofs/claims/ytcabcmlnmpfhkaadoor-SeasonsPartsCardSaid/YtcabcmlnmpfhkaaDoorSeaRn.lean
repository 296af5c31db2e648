/- Package seasons: Run, whatever the year and the code. -/
import Derived.Test.YtcabcmlnmpfhkaaDoorSeaBg
namespace Go.Proofs.YtcabcmlnmpfhkaaDoor
open Go.RowKit

theorem aE_sE {y c : Int} (hc : isC c = true) : aE y (sF c : Nat) ((sN c : Nat) - 1) = sE y c := by
  have hf := sFN hc
  have hm : mo (sF c : Nat) = true := (mo_iff _).2 (by omega)
  rw [sE_add hc]
  unfold aE mE
  cases yr y
  · rfl
  · rw [hm]
    cases yr (adY y (sF c : Nat) ((sN c : Nat) - 1)) <;> rfl
theorem aV_err {y m k : Int} (h : ¬ aE y m k = 0) (v : Int) : aV y m k v = 0 := if_neg fun q => h (by unfold aE; rw [if_pos q.1, if_pos q.2])
theorem aV_fine {y m k : Int} (h : aE y m k = 0) (v : Int) : aV y m k v = v := by
  unfold aE at h
  unfold aV
  by_cases h1 : mE y m = 0
  · rw [if_pos h1] at h
    cases h2 : yr (adY y m k)
    · rw [h2] at h; simp at h
    · rw [if_pos ⟨h1, rfl⟩]
  · rw [if_neg h1] at h; exact absurd h h1
theorem sE_fine {y c : Int} (h : sE y c = 0) : isC c = true ∧ yr y = true ∧ yr (adY y (sF c : Nat) ((sN c : Nat) - 1)) = true := by
  have hc : isC c = true := by
    cases hc : isC c
    · unfold sE at h; rw [hc] at h; simp at h
    · rfl
  have := (sE_iff hc).1 h
  rw [Bool.and_eq_true] at this
  exact ⟨hc, this.1, this.2⟩
set_option maxRecDepth 100000 in
set_option maxHeartbeats 1600000 in
theorem run_code (y c : Int) (w : World) (hs : Start w) (hci : I64 c) (hc : isC c = false) :
    Calls Tryd.prog 10 #[.int .i64 y, .int .i64 c] w fun e w' => e = .returned (.tuple #[R4 0 0 0 0, .int .i64 7]) ∧ Below w.heap.size w w' := by
  have hK := (run_new (w := w) (Below.refl _ _)).2.2
  have hB := (run_new (w := w) (Below.refl _ _)).1
  have HM := Lib.hid (fun X hX => sea_months c X (hs.below hX) hci)
  have hkE : kE c = 7 := by unfold kE; rw [hc]; rfl
  rw [(sF_no hc).1, (sF_no hc).2, hkE] at HM
  clear hs hci hc hkE
  go_enter Tryd.func10, Tryd.ntmps10
  go_upto_region 1 with fail
  have hgs : w.heap.size < (w.alloc (Obj.cells #[Value.int IntKind.i8 0, Value.int IntKind.i64 0, Value.int IntKind.i8 0, Value.int IntKind.i64 0] 32)).heap.size := by simp
  generalize (w.alloc (Obj.cells #[Value.int IntKind.i8 0, Value.int IntKind.i64 0, Value.int IntKind.i8 0, Value.int IntKind.i64 0] 32)) = V at *
  go_upto_region 2 with (go_at_call 7; ((with_reducible refine (HM.out _ hB).mono ?_); rintro e w1 ⟨rfl, hb1⟩))
  have hK1 := hK.below hgs hb1
  have hB1 := hB.trans (hb1.mono hB.size)
  have HK := Lib.hid hK1
  have HB := Lib.hid hB1
  obtain ⟨t0, t1, t2, t3⟩ := hK1.four
  have z0 := hK1.frozen 0
  have z1 := hK1.frozen 1
  have z2 := hK1.frozen 2
  have z3 := hK1.frozen 3
  clear hK hB hb1 hgs HM hK1 hB1
  go_wp2_with fail
  exact bodyPost_ret (res_run2 rfl rfl rfl (HK.out.store 0 0 0 0).four) rfl ⟨rfl, set4_below HB.out 0 0 0 0⟩
set_option maxRecDepth 100000 in
set_option maxHeartbeats 1600000 in
theorem run_bad (y c : Int) (w : World) (hs : Start w) (hy : I64 y) (hci : I64 c) (hc : isC c = true) (h6 : sE y c = 6) :
    Calls Tryd.prog 10 #[.int .i64 y, .int .i64 c] w fun e w' => e = .returned (.tuple #[R4 0 0 0 0, .int .i64 6]) ∧ Below w.heap.size w w' := by
  have hK := (run_new (w := w) (Below.refl _ _)).2.2
  have hB := (run_new (w := w) (Below.refl _ _)).1
  have HM := Lib.hid (fun X hX => sea_months c X (hs.below hX) hci)
  have hkE : kE c = 0 := by unfold kE; rw [hc]; rfl
  rw [hkE] at HM
  have hf := sFN hc
  have HA : Hid (∀ X, Below w.heap.size w X → Calls Tryd.prog 22 #[.int .i64 y, .int .i64 (sF c : Nat), .int .i64 ((sN c : Nat) - 1)] X fun e w' => e = .returned (.tuple #[.int .i64 0, .int .i64 0, .int .i64 6]) ∧ Below X.heap.size X w') := fun X hX => by
    have := madd_any y (sF c : Nat) X (hs.below hX).1 hy (by unfold I64; omega) ((sN c : Nat) - 1) (by unfold I64; omega)
    have h0 : ¬ aE y (sF c : Nat) ((sN c : Nat) - 1) = 0 := by rw [aE_sE hc, h6]; decide
    rw [aV_err h0, aV_err h0, aE_sE hc, h6] at this
    exact this
  obtain ⟨f1, f2, f3, f4, -⟩ := hf
  generalize sF c = F at *
  generalize sN c = N at *
  clear hs hci hc hkE h6 hy
  go_enter Tryd.func10, Tryd.ntmps10
  go_upto_region 1 with fail
  have hgs : w.heap.size < (w.alloc (Obj.cells #[Value.int IntKind.i8 0, Value.int IntKind.i64 0, Value.int IntKind.i8 0, Value.int IntKind.i64 0] 32)).heap.size := by simp
  generalize (w.alloc (Obj.cells #[Value.int IntKind.i8 0, Value.int IntKind.i64 0, Value.int IntKind.i8 0, Value.int IntKind.i64 0] 32)) = V at *
  go_upto_region 2 with (go_at_call 7; ((with_reducible refine (HM.out _ hB).mono ?_); rintro e w1 ⟨rfl, hb1⟩))
  have hK1 := hK.below hgs hb1
  have hB1 := hB.trans (hb1.mono hB.size)
  have hgs1 := Nat.lt_of_lt_of_le hgs hb1.size
  clear HM hK hB hb1 hgs
  go_upto_region 5 with (go_at_call 22; ((with_reducible refine (HA.out _ hB1).mono ?_); rintro e w2 ⟨rfl, hb2⟩))
  have hK2 := hK1.below hgs1 hb2
  have hB2 := hB1.trans (hb2.mono hB1.size)
  have HK := Lib.hid hK2
  have HB := Lib.hid hB2
  obtain ⟨t0, t1, t2, t3⟩ := hK2.four
  have z0 := hK2.frozen 0
  have z1 := hK2.frozen 1
  have z2 := hK2.frozen 2
  have z3 := hK2.frozen 3
  clear hK1 hB1 hb2 hgs1 hK2 hB2 HA
  go_wp2_with fail
  exact bodyPost_ret (res_run2 rfl rfl rfl (HK.out.store 0 0 0 0).four) rfl ⟨rfl, set4_below HB.out 0 0 0 0⟩
set_option maxRecDepth 100000 in
set_option maxHeartbeats 1600000 in
theorem prun_in (y c : Int) (w : World) (hs : Start w) (hci : I64 c) (h0 : sE y c = 0) :
    Calls Tryd.prog 10 #[.int .i64 y, .int .i64 c] w fun e w' => e = .returned (.tuple #[R4 0 (sLo y c) 0 (sHi y c), .int .i64 0]) ∧ Below w.heap.size w w' := by
  obtain ⟨hc, hy, hz⟩ := sE_fine h0
  have hyb := (yr_iff y).1 hy
  have hK := (run_new (w := w) (Below.refl _ _)).2.2
  have hB := (run_new (w := w) (Below.refl _ _)).1
  have HM := Lib.hid (fun X hX => sea_months c X (hs.below hX) hci)
  have hkE : kE c = 0 := by unfold kE; rw [hc]; rfl
  rw [hkE] at HM
  have hf := sFN hc
  have hmF : mo (sF c : Nat) = true := (mo_iff _).2 (by omega)
  have hl := lst_in (z := y) hc
  have HA : Hid (∀ X, Below w.heap.size w X → Calls Tryd.prog 22 #[.int .i64 y, .int .i64 (sF c : Nat), .int .i64 ((sN c : Nat) - 1)] X fun e w' => e = .returned (.tuple #[.int .i64 (adY y (sF c : Nat) ((sN c : Nat) - 1)), .int .i64 (adM y (sF c : Nat) ((sN c : Nat) - 1)), .int .i64 0]) ∧ Below X.heap.size X w') := fun X hX => by
    have := madd_any y (sF c : Nat) X (hs.below hX).1 (by unfold I64; omega) (by unfold I64; omega) ((sN c : Nat) - 1) (by unfold I64; omega)
    have h1 : aE y (sF c : Nat) ((sN c : Nat) - 1) = 0 := by rw [aE_sE hc, h0]
    rw [aV_fine h1, aV_fine h1, h1] at this
    exact this
  have HS : Hid (∀ X, Below w.heap.size w X → Calls Tryd.prog 23 #[.int .i64 y, .int .i64 (sF c : Nat)] X fun e w' => e = .returned (.tuple #[.int .i64 (sLo y c), .int .i64 0]) ∧ Below X.heap.size X w') := fun X hX => by
    have := mstart_any y (sF c : Nat) X (hs.below hX).1 (by unfold I64; omega) (by unfold I64; omega)
    rw [mV_in hy hmF, mE_in hy hmF] at this
    have e : mfst y (sF c : Nat) = sLo y c := by
      unfold mfst sLo
      rw [sm_le (by omega), show (((sF c : Nat) : Int) - 1).toNat = sF c - 1 by omega]
    rw [e] at this
    exact this
  have HE : Hid (∀ X, Below w.heap.size w X → Calls Tryd.prog 24 #[.int .i64 (adY y (sF c : Nat) ((sN c : Nat) - 1)), .int .i64 (adM y (sF c : Nat) ((sN c : Nat) - 1))] X fun e w' => e = .returned (.tuple #[.int .i64 (sHi y c), .int .i64 0]) ∧ Below X.heap.size X w') := fun X hX => by
    have ham : mo (adM y (sF c : Nat) ((sN c : Nat) - 1)) = true := (mo_iff _).2 (ad_spec _ _ _).2
    have hab := (mo_iff _).1 ham
    have hzb := (yr_iff _).1 hz
    have := mend_any (adY y (sF c : Nat) ((sN c : Nat) - 1)) (adM y (sF c : Nat) ((sN c : Nat) - 1)) X (hs.below hX).1 (by unfold I64; omega) (by unfold I64; omega)
    rw [mV_in hz ham, mE_in hz ham] at this
    have e : mlst (adY y (sF c : Nat) ((sN c : Nat) - 1)) (adM y (sF c : Nat) ((sN c : Nat) - 1)) = sHi y c := by
      rw [hl.1, hl.2]
      unfold mlst sHi
      by_cases h : sF c + sN c - 1 ≤ 12
      · rw [if_pos h, if_pos h, sm_le (by omega), show (((sF c + sN c - 1 : Nat) : Int)).toNat = sF c - 1 + sN c by omega]
      · rw [if_neg h, if_neg h, sm_gt (by omega), show (((sF c + sN c - 13 : Nat) : Int)).toNat = sF c - 1 + sN c - 12 by omega]
    rw [e] at this
    exact this
  obtain ⟨f1, f2, f3, f4, -⟩ := hf
  generalize sLo y c = LO at *
  generalize sHi y c = HI at *
  generalize adY y (sF c : Nat) ((sN c : Nat) - 1) = z at *
  generalize adM y (sF c : Nat) ((sN c : Nat) - 1) = n at *
  generalize sF c = F at *
  generalize sN c = N at *
  clear hs hci hc hkE h0 hy hyb hz hl hmF
  go_enter Tryd.func10, Tryd.ntmps10
  go_upto_region 1 with fail
  have hgs : w.heap.size < (w.alloc (Obj.cells #[Value.int IntKind.i8 0, Value.int IntKind.i64 0, Value.int IntKind.i8 0, Value.int IntKind.i64 0] 32)).heap.size := by simp
  generalize (w.alloc (Obj.cells #[Value.int IntKind.i8 0, Value.int IntKind.i64 0, Value.int IntKind.i8 0, Value.int IntKind.i64 0] 32)) = V at *
  go_upto_region 2 with (go_at_call 7; ((with_reducible refine (HM.out _ hB).mono ?_); rintro e w1 ⟨rfl, hb1⟩))
  have hK1 := hK.below hgs hb1
  have hB1 := hB.trans (hb1.mono hB.size)
  have hgs1 := Nat.lt_of_lt_of_le hgs hb1.size
  clear HM hK hB hb1 hgs
  go_upto_region 5 with (go_at_call 22; ((with_reducible refine (HA.out _ hB1).mono ?_); rintro e w2 ⟨rfl, hb2⟩))
  have hK2 := hK1.below hgs1 hb2
  have hB2 := hB1.trans (hb2.mono hB1.size)
  have hgs2 := Nat.lt_of_lt_of_le hgs1 hb2.size
  clear HA hK1 hB1 hb2 hgs1
  go_upto_region 8 with (go_at_call 23; ((with_reducible refine (HS.out _ hB2).mono ?_); rintro e w3 ⟨rfl, hb3⟩))
  have hK3 := hK2.below hgs2 hb3
  have hB3 := hB2.trans (hb3.mono hB2.size)
  have hgs3 := Nat.lt_of_lt_of_le hgs2 hb3.size
  clear HS hK2 hB2 hb3 hgs2
  go_upto_region 9 with (go_at_call 24; ((with_reducible refine (HE.out _ hB3).mono ?_); rintro e w4 ⟨rfl, hb4⟩))
  have hK4 := hK3.below hgs3 hb4
  have hB4 := hB3.trans (hb4.mono hB3.size)
  have HK := Lib.hid hK4
  have HB := Lib.hid hB4
  obtain ⟨t0, t1, t2, t3⟩ := hK4.four
  have z0 := hK4.frozen 0
  have z1 := hK4.frozen 1
  have z2 := hK4.frozen 2
  have z3 := hK4.frozen 3
  clear hK3 hB3 hb4 hgs3 hK4 hB4 HE
  go_wp2_with fail
  exact bodyPost_ret (res_run2 rfl rfl rfl (HK.out.store 0 LO 0 HI).four) rfl ⟨rfl, set4_below HB.out 0 LO 0 HI⟩
theorem sea_run (y c : Int) (w : World) (hs : Start w) (hy : I64 y) (hc : I64 c) : Calls Tryd.prog 10 #[.int .i64 y, .int .i64 c] w fun e w' => e = .returned (.tuple #[R4 0 (rV y c (sLo y c)) 0 (rV y c (sHi y c)), .int .i64 (sE y c)]) ∧ Below w.heap.size w w' := by
  cases hC : isC c
  · have h7 : sE y c = 7 := by unfold sE; rw [hC]; rfl
    have hv : ∀ v, rV y c v = 0 := fun v => if_neg (by rw [h7]; decide)
    rw [hv, hv, h7]
    exact run_code y c w hs hc hC
  · by_cases h0 : sE y c = 0
    · have hv : ∀ v, rV y c v = v := fun v => if_pos h0
      rw [hv, hv, h0]
      exact prun_in y c w hs hc h0
    · have h6 : sE y c = 6 := by rw [sE_add hC] at h0 ⊢; split <;> simp_all
      have hv : ∀ v, rV y c v = 0 := fun v => if_neg h0
      rw [hv, hv, h6]
      exact run_bad y c w hs hy hc hC h6
end Go.Proofs.YtcabcmlnmpfhkaaDoor
