/- The reference of ends (circaref08): Text and Parse. -/
import Derived.Test.YtjgaoajbcbpbbaaDoorEndR
namespace Go.Proofs.YtjgaoajbcbpbbaaDoor
open Go.RowKit

theorem fit_id {z : Int} (h : fitsB z = true) : fitV z = z := by
  have := of_decide_eq_true h
  exact fitV_in this.1 this.2
theorem fit_no {z : Int} (h : fitsB z = false) : fitV z = 0 := by
  have := of_decide_eq_false h
  exact fitV_out (by omega)
theorem enS_zero (d : Int) : enS 0 d = ⟨(Lib.itoa d).toArray⟩ := rfl
set_option maxRecDepth 100000 in
theorem texE_any (i d : Int) (w : World) (hd : I64 d) :
    Calls Tryd.prog 23 #[E2 i d] w fun x w' => x = .returned (.string (enS i d)) ∧ Below w.heap.size w w' := by
  rcases (show i < 0 ∨ (¬ i < 0 ∧ 0 < i) ∨ i = 0 by omega) with h | ⟨h, h2⟩ | rfl
  · have HS : Hid (enS i d = ⟨#[45, 105, 110, 102]⟩) := by show _ = _; unfold enS enL; rw [if_pos h]
    rw [HS.out]
    go_enter Tryd.func23, Tryd.ntmps23
    go_upto_region 1 with fail
    obtain ⟨hK, hlt, hb⟩ := end_new w i d _ rfl
    generalize (w.alloc (Obj.cells #[Value.int IntKind.i8 i, Value.int IntKind.i64 d] 24)) = W1 at *
    obtain ⟨f0, f1⟩ := hK.duo
    go_wp2
    go_ret
    exact ⟨rfl, hb⟩
  · have HS : Hid (enS i d = ⟨#[105, 110, 102]⟩) := by show _ = _; unfold enS enL; rw [if_neg h, if_pos h2]
    rw [HS.out]
    go_enter Tryd.func23, Tryd.ntmps23
    go_upto_region 1 with fail
    obtain ⟨hK, hlt, hb⟩ := end_new w i d _ rfl
    generalize (w.alloc (Obj.cells #[Value.int IntKind.i8 i, Value.int IntKind.i64 d] 24)) = W1 at *
    obtain ⟨f0, f1⟩ := hK.duo
    go_wp2
    go_ret
    exact ⟨rfl, hb⟩
  · rw [enS_zero]
    have HO := Lib.hid (fun X => of_any d X hd.1 hd.2)
    have HT := Lib.hid (fun v X hv => textR_any v d X hv (lim_int hd.1 hd.2))
    go_enter Tryd.func23, Tryd.ntmps23
    go_upto_region 1 with fail
    obtain ⟨hK, hlt, hb⟩ := end_new w 0 d _ rfl
    generalize (w.alloc (Obj.cells #[Value.int IntKind.i8 0, Value.int IntKind.i64 d] 24)) = W1 at *
    obtain ⟨f0, f1⟩ := hK.duo
    go_wp2_with (first
      | (go_at_call 35; ((with_reducible refine (HO.out _).mono ?_); rintro e w2 ⟨u, rfl, hu, hb2⟩))
      | (go_at_call 34; ((with_reducible refine (HT.out _ _ hu).mono ?_); rintro e w3 ⟨rfl, hb3⟩)))
    go_ret
    exact ⟨rfl, hb.trans ((hb2.trans (hb3.mono hb2.size)).mono (Nat.le_of_lt hlt))⟩
set_option maxRecDepth 100000 in
theorem parE_any (s : ByteArray) (w : World) (hs : s.size ≤ 100) :
    Calls Tryd.prog 24 #[.string s] w fun x w' => x = .returned (.tuple #[E2 (prI s) (prD s), .int .i64 (prE s)]) ∧ Below w.heap.size w w' := by
  rcases prE_cases s with ⟨h1, q⟩ | ⟨h1, h2, q⟩ | ⟨h1, h2, h3, q⟩ | ⟨h1, h2, h3, h4, q⟩ | ⟨h1, h2, h3, h4, q⟩
  all_goals
    rw [q.1, q.2.1, q.2.2]
    clear q
  · have a1 := str_is h1
    clear h1
    go_enter Tryd.func24, Tryd.ntmps24
    go_upto_region 1 with fail
    obtain ⟨hK, hlt, hb⟩ := end_new w 0 0 _ rfl
    generalize (w.alloc (Obj.cells #[Value.int IntKind.i8 0, Value.int IntKind.i64 0] 24)) = W1 at *
    obtain ⟨f0, f1⟩ := hK.duo
    have z0 := hK.frozen 0
    have z1 := hK.frozen 1
    have HL := Lib.hid hK
    clear hK
    go_wp2_with fail
    exact bodyPost_ret (res_end2 rfl rfl rfl (HL.out.store 1 0).duo) rfl ⟨rfl, set2_below hb (Nat.le_refl _) 1 0⟩
  · have a1 := str_not h1
    have a2 := str_is h2
    clear h1 h2
    go_enter Tryd.func24, Tryd.ntmps24
    go_upto_region 1 with fail
    obtain ⟨hK, hlt, hb⟩ := end_new w 0 0 _ rfl
    generalize (w.alloc (Obj.cells #[Value.int IntKind.i8 0, Value.int IntKind.i64 0] 24)) = W1 at *
    obtain ⟨f0, f1⟩ := hK.duo
    have z0 := hK.frozen 0
    have z1 := hK.frozen 1
    have HL := Lib.hid hK
    clear hK
    go_wp2_with fail
    exact bodyPost_ret (res_end2 rfl rfl rfl (HL.out.store (-1) 0).duo) rfl ⟨rfl, set2_below hb (Nat.le_refl _) (-1) 0⟩
  · have a1 := str_not h1
    have a2 := str_not h2
    have HP := Lib.hid (fun X => parseR_gen s false (valB s.data.toList) X hs h3 rfl)
    clear h1 h2 h3
    go_enter Tryd.func24, Tryd.ntmps24
    go_upto_region 1 with fail
    obtain ⟨hK, hlt, hb⟩ := end_new w 0 0 _ rfl
    generalize (w.alloc (Obj.cells #[Value.int IntKind.i8 0, Value.int IntKind.i64 0] 24)) = W1 at *
    go_upto_region 6 with (go_at_call 36; ((with_reducible refine (HP.out _).mono ?_); rintro e w2 ⟨b, A, n, c, rfl, hN, hb2⟩))
    obtain ⟨hM, hb3, hl3⟩ := one_new w2 #[.bool b, .slice A n c] _ rfl
    generalize (w2.alloc (Obj.cells #[Value.bool b, Value.slice A n c] 60)) = W3 at *
    have hb23 := hb2.trans (hb3.mono hb2.size)
    have hK3 := hK.below hlt hb23
    have hB3 := hb.trans (hb23.mono (Nat.le_of_lt hlt))
    clear hM hN hb3 hb23
    clear hb hK HP hb2
    obtain ⟨f0, f1⟩ := hK3.duo
    have z0 := hK3.frozen 0
    have z1 := hK3.frozen 1
    have HL := Lib.hid hK3
    clear hK3
    go_wp2_with fail
    exact bodyPost_ret (res_end2 rfl rfl rfl (HL.out.store 0 0).duo) rfl ⟨rfl, set2_below hB3 (Nat.le_refl _) 0 0⟩
  · have a1 := str_not h1
    have a2 := str_not h2
    have HP := Lib.hid (fun X => parseR_gen s true (valB s.data.toList) X hs h3 rfl)
    clear h1 h2
    have HI := Lib.hid (fun v X hv => int_any v (valB s.data.toList) X hv (text_lim h3 hs))
    rw [h4] at HI
    have hfv : fitV (valB s.data.toList) = 0 := fit_no h4
    rw [hfv] at HI
    clear hfv
    clear h3 h4
    generalize valB s.data.toList = z at *
    go_enter Tryd.func24, Tryd.ntmps24
    go_upto_region 1 with fail
    obtain ⟨hK, hlt, hb⟩ := end_new w 0 0 _ rfl
    generalize (w.alloc (Obj.cells #[Value.int IntKind.i8 0, Value.int IntKind.i64 0] 24)) = W1 at *
    go_upto_region 6 with (go_at_call 36; ((with_reducible refine (HP.out _).mono ?_); rintro e w2 ⟨b, A, n, c, rfl, hN, hb2⟩))
    obtain ⟨hM, hb3, hl3⟩ := one_new w2 #[.bool b, .slice A n c] _ rfl
    generalize (w2.alloc (Obj.cells #[Value.bool b, Value.slice A n c] 60)) = W3 at *
    have hb23 := hb2.trans (hb3.mono hb2.size)
    have hK3 := hK.below hlt hb23
    have hB3 := hb.trans (hb23.mono (Nat.le_of_lt hlt))
    have hN3 := (hN (by trivial)).below hb3
    have m0 := hM.cell 0
    have m1 := hM.cell 1
    simp at m0 m1
    have hlt3 := Nat.lt_of_lt_of_le hlt hb23.size
    clear hM hN hb3 hb23
    clear hb hK HP hb2
    go_upto_region 9 with (go_at_call 37; ((with_reducible refine (HI.out _ _ hN3).mono ?_); rintro e w4 ⟨rfl, hb4⟩))
    have hK4 := hK3.below hlt3 hb4
    have hB4 := hB3.trans (hb4.mono hB3.size)
    clear hK3 hB3 hb4 HI hN3
    obtain ⟨f0, f1⟩ := hK4.duo
    have z0 := hK4.frozen 0
    have z1 := hK4.frozen 1
    have HL := Lib.hid hK4
    clear hK4
    go_wp2_with fail
    exact bodyPost_ret (res_end2 rfl rfl rfl (HL.out.store 0 0).duo) rfl ⟨rfl, set2_below hB4 (Nat.le_refl _) 0 0⟩
  · have a1 := str_not h1
    have a2 := str_not h2
    have HP := Lib.hid (fun X => parseR_gen s true (valB s.data.toList) X hs h3 rfl)
    clear h1 h2
    have HI := Lib.hid (fun v X hv => int_any v (valB s.data.toList) X hv (text_lim h3 hs))
    rw [h4] at HI
    have hfv : fitV (valB s.data.toList) = valB s.data.toList := fit_id h4
    rw [hfv] at HI
    clear hfv
    clear h3 h4
    generalize valB s.data.toList = z at *
    go_enter Tryd.func24, Tryd.ntmps24
    go_upto_region 1 with fail
    obtain ⟨hK, hlt, hb⟩ := end_new w 0 0 _ rfl
    generalize (w.alloc (Obj.cells #[Value.int IntKind.i8 0, Value.int IntKind.i64 0] 24)) = W1 at *
    go_upto_region 6 with (go_at_call 36; ((with_reducible refine (HP.out _).mono ?_); rintro e w2 ⟨b, A, n, c, rfl, hN, hb2⟩))
    obtain ⟨hM, hb3, hl3⟩ := one_new w2 #[.bool b, .slice A n c] _ rfl
    generalize (w2.alloc (Obj.cells #[Value.bool b, Value.slice A n c] 60)) = W3 at *
    have hb23 := hb2.trans (hb3.mono hb2.size)
    have hK3 := hK.below hlt hb23
    have hB3 := hb.trans (hb23.mono (Nat.le_of_lt hlt))
    have hN3 := (hN (by trivial)).below hb3
    have m0 := hM.cell 0
    have m1 := hM.cell 1
    simp at m0 m1
    have hlt3 := Nat.lt_of_lt_of_le hlt hb23.size
    clear hM hN hb3 hb23
    clear hb hK HP hb2
    go_upto_region 9 with (go_at_call 37; ((with_reducible refine (HI.out _ _ hN3).mono ?_); rintro e w4 ⟨rfl, hb4⟩))
    have hK4 := hK3.below hlt3 hb4
    have hB4 := hB3.trans (hb4.mono hB3.size)
    clear hK3 hB3 hb4 HI hN3
    obtain ⟨f0, f1⟩ := hK4.duo
    have z0 := hK4.frozen 0
    have z1 := hK4.frozen 1
    have HL := Lib.hid hK4
    clear hK4
    go_wp2_with fail
    exact bodyPost_ret (res_end2 rfl rfl rfl (HL.out.store 0 z).duo) rfl ⟨rfl, set2_below hB4 (Nat.le_refl _) 0 z⟩
end Go.Proofs.YtjgaoajbcbpbbaaDoor
