/- The functions of package ends, for the landed code: moved, Next, Prev. -/
import Derived.Test.YtjgaoajbcbpbbaaDoorEndD
import Derived.Test.YtjgaoajbcbpbbaaDoorIAdd
namespace Go.Proofs.YtjgaoajbcbpbbaaDoor
open Go.RowKit

set_option maxRecDepth 100000 in
theorem kmov_any (i d k a b e : Int) (w : World) (hd : I64 d) (hk : I64 k)
    (h : (infB i d = true ∧ a = i ∧ b = d ∧ e = 0) ∨ (infB i d = false ∧ enE i d = 5 ∧ a = 0 ∧ b = 0 ∧ e = 5) ∨ (infB i d = false ∧ enE i d = 0 ∧ a = 0 ∧ b = fitV (d + k) ∧ e = fitE (d + k))) :
    Calls Tryd.prog 28 #[E2 i d, .int .i64 k] w fun x w' => x = .returned (.tuple #[E2 a b, .int .i64 e]) ∧ Below w.heap.size w w' := by
  have hI := fun X => kinf_any i d X
  have hC := fun X => kchk_any i d X
  have hA := fun X => add_any d k X hd.1 hd.2 hk.1 hk.2
  have hO := fun X => kof_any (fitV (d + k)) X
  clear hd hk
  rcases h with ⟨q, h1, h2, h3⟩ | ⟨q, q2, rfl, rfl, rfl⟩ | ⟨q, q2, rfl, rfl, rfl⟩
  · rw [q] at hI
    rw [h1, h2, h3]
    clear q h1 h2 h3
    go_enter Tryd.func28, Tryd.ntmps28
    go_upto_region 1 with fail
    obtain ⟨hK, hL, hs, hb⟩ := two_end w i d 0 0 _ rfl
    generalize ((w.alloc (Obj.cells #[Value.int IntKind.i8 i, Value.int IntKind.i64 d] 24)).alloc (Obj.cells #[Value.int IntKind.i8 0, Value.int IntKind.i64 0] 24)) = W1 at *
    obtain ⟨f0, f1⟩ := id hK.duo
    have hX := Below.refl W1.heap.size W1
    have HI := Lib.hid (fun X (h : Below W1.heap.size W1 X) => callB hI h)
    have HC := Lib.hid (fun X (h : Below W1.heap.size W1 X) => callB hC h)
    have HA := Lib.hid (fun X (h : Below W1.heap.size W1 X) => callB hA h)
    have HO := Lib.hid (fun X (h : Below W1.heap.size W1 X) => callB hO h)
    clear hI hC hA hO
    go_wp2_with (first
      | (go_at_call 30; ((with_reducible refine (HI.out _ hX).mono ?_); rintro z w2 ⟨rfl, hk⟩; (try clear hX); have hX := hk; (try clear m0 m1 u0 u1 z0 z1 HM HB); obtain ⟨m0, m1⟩ := (hK.below (by omega) hk).duo; have HM := Lib.hid (hL.below (by omega) hk); obtain ⟨u0, u1⟩ := HM.out.duo; have z0 := HM.out.frozen 0; have z1 := HM.out.frozen 1; have HB := Lib.hid (hb.trans (hk.mono (by omega))); clear hk))
      | (go_at_call 17; ((with_reducible refine (HC.out _ hX).mono ?_); rintro z w2 ⟨rfl, hk⟩; (try clear hX); have hX := hk; (try clear m0 m1 u0 u1 z0 z1 HM HB); obtain ⟨m0, m1⟩ := (hK.below (by omega) hk).duo; have HM := Lib.hid (hL.below (by omega) hk); obtain ⟨u0, u1⟩ := HM.out.duo; have z0 := HM.out.frozen 0; have z1 := HM.out.frozen 1; have HB := Lib.hid (hb.trans (hk.mono (by omega))); clear hk))
      | (go_at_call 40; ((with_reducible refine (HA.out _ hX).mono ?_); rintro z w2 ⟨rfl, hk⟩; (try clear hX); have hX := hk; (try clear m0 m1 u0 u1 z0 z1 HM HB); obtain ⟨m0, m1⟩ := (hK.below (by omega) hk).duo; have HM := Lib.hid (hL.below (by omega) hk); obtain ⟨u0, u1⟩ := HM.out.duo; have z0 := HM.out.frozen 0; have z1 := HM.out.frozen 1; have HB := Lib.hid (hb.trans (hk.mono (by omega))); clear hk))
      | (go_at_call 20; ((with_reducible refine (HO.out _ hX).mono ?_); rintro z w2 ⟨rfl, hk⟩; (try clear hX); have hX := hk; (try clear m0 m1 u0 u1 z0 z1 HM HB); obtain ⟨m0, m1⟩ := (hK.below (by omega) hk).duo; have HM := Lib.hid (hL.below (by omega) hk); obtain ⟨u0, u1⟩ := HM.out.duo; have z0 := HM.out.frozen 0; have z1 := HM.out.frozen 1; have HB := Lib.hid (hb.trans (hk.mono (by omega))); clear hk)))
    exact bodyPost_ret (res_end2 rfl rfl rfl (HM.out.store i d).duo) rfl ⟨rfl, set2_below HB.out (by omega) i d⟩
  · rw [q] at hI
    rw [q2] at hC
    clear q q2
    go_enter Tryd.func28, Tryd.ntmps28
    go_upto_region 1 with fail
    obtain ⟨hK, hL, hs, hb⟩ := two_end w i d 0 0 _ rfl
    generalize ((w.alloc (Obj.cells #[Value.int IntKind.i8 i, Value.int IntKind.i64 d] 24)).alloc (Obj.cells #[Value.int IntKind.i8 0, Value.int IntKind.i64 0] 24)) = W1 at *
    obtain ⟨f0, f1⟩ := id hK.duo
    have hX := Below.refl W1.heap.size W1
    have HI := Lib.hid (fun X (h : Below W1.heap.size W1 X) => callB hI h)
    have HC := Lib.hid (fun X (h : Below W1.heap.size W1 X) => callB hC h)
    have HA := Lib.hid (fun X (h : Below W1.heap.size W1 X) => callB hA h)
    have HO := Lib.hid (fun X (h : Below W1.heap.size W1 X) => callB hO h)
    clear hI hC hA hO
    go_wp2_with (first
      | (go_at_call 30; ((with_reducible refine (HI.out _ hX).mono ?_); rintro z w2 ⟨rfl, hk⟩; (try clear hX); have hX := hk; (try clear m0 m1 u0 u1 z0 z1 HM HB); obtain ⟨m0, m1⟩ := (hK.below (by omega) hk).duo; have HM := Lib.hid (hL.below (by omega) hk); obtain ⟨u0, u1⟩ := HM.out.duo; have z0 := HM.out.frozen 0; have z1 := HM.out.frozen 1; have HB := Lib.hid (hb.trans (hk.mono (by omega))); clear hk))
      | (go_at_call 17; ((with_reducible refine (HC.out _ hX).mono ?_); rintro z w2 ⟨rfl, hk⟩; (try clear hX); have hX := hk; (try clear m0 m1 u0 u1 z0 z1 HM HB); obtain ⟨m0, m1⟩ := (hK.below (by omega) hk).duo; have HM := Lib.hid (hL.below (by omega) hk); obtain ⟨u0, u1⟩ := HM.out.duo; have z0 := HM.out.frozen 0; have z1 := HM.out.frozen 1; have HB := Lib.hid (hb.trans (hk.mono (by omega))); clear hk))
      | (go_at_call 40; ((with_reducible refine (HA.out _ hX).mono ?_); rintro z w2 ⟨rfl, hk⟩; (try clear hX); have hX := hk; (try clear m0 m1 u0 u1 z0 z1 HM HB); obtain ⟨m0, m1⟩ := (hK.below (by omega) hk).duo; have HM := Lib.hid (hL.below (by omega) hk); obtain ⟨u0, u1⟩ := HM.out.duo; have z0 := HM.out.frozen 0; have z1 := HM.out.frozen 1; have HB := Lib.hid (hb.trans (hk.mono (by omega))); clear hk))
      | (go_at_call 20; ((with_reducible refine (HO.out _ hX).mono ?_); rintro z w2 ⟨rfl, hk⟩; (try clear hX); have hX := hk; (try clear m0 m1 u0 u1 z0 z1 HM HB); obtain ⟨m0, m1⟩ := (hK.below (by omega) hk).duo; have HM := Lib.hid (hL.below (by omega) hk); obtain ⟨u0, u1⟩ := HM.out.duo; have z0 := HM.out.frozen 0; have z1 := HM.out.frozen 1; have HB := Lib.hid (hb.trans (hk.mono (by omega))); clear hk)))
    exact bodyPost_ret (res_end2 rfl rfl rfl (HM.out.store 0 0).duo) rfl ⟨rfl, set2_below HB.out (by omega) 0 0⟩
  · rw [q] at hI
    rw [q2] at hC
    clear q q2
    generalize fitV (d + k) = b at *
    generalize fitE (d + k) = e at *
    go_enter Tryd.func28, Tryd.ntmps28
    go_upto_region 1 with fail
    obtain ⟨hK, hL, hs, hb⟩ := two_end w i d 0 0 _ rfl
    generalize ((w.alloc (Obj.cells #[Value.int IntKind.i8 i, Value.int IntKind.i64 d] 24)).alloc (Obj.cells #[Value.int IntKind.i8 0, Value.int IntKind.i64 0] 24)) = W1 at *
    obtain ⟨f0, f1⟩ := id hK.duo
    have hX := Below.refl W1.heap.size W1
    have HI := Lib.hid (fun X (h : Below W1.heap.size W1 X) => callB hI h)
    have HC := Lib.hid (fun X (h : Below W1.heap.size W1 X) => callB hC h)
    have HA := Lib.hid (fun X (h : Below W1.heap.size W1 X) => callB hA h)
    have HO := Lib.hid (fun X (h : Below W1.heap.size W1 X) => callB hO h)
    clear hI hC hA hO
    go_wp2_with (first
      | (go_at_call 30; ((with_reducible refine (HI.out _ hX).mono ?_); rintro z w2 ⟨rfl, hk⟩; (try clear hX); have hX := hk; (try clear m0 m1 u0 u1 z0 z1 HM HB); obtain ⟨m0, m1⟩ := (hK.below (by omega) hk).duo; have HM := Lib.hid (hL.below (by omega) hk); obtain ⟨u0, u1⟩ := HM.out.duo; have z0 := HM.out.frozen 0; have z1 := HM.out.frozen 1; have HB := Lib.hid (hb.trans (hk.mono (by omega))); clear hk))
      | (go_at_call 17; ((with_reducible refine (HC.out _ hX).mono ?_); rintro z w2 ⟨rfl, hk⟩; (try clear hX); have hX := hk; (try clear m0 m1 u0 u1 z0 z1 HM HB); obtain ⟨m0, m1⟩ := (hK.below (by omega) hk).duo; have HM := Lib.hid (hL.below (by omega) hk); obtain ⟨u0, u1⟩ := HM.out.duo; have z0 := HM.out.frozen 0; have z1 := HM.out.frozen 1; have HB := Lib.hid (hb.trans (hk.mono (by omega))); clear hk))
      | (go_at_call 40; ((with_reducible refine (HA.out _ hX).mono ?_); rintro z w2 ⟨rfl, hk⟩; (try clear hX); have hX := hk; (try clear m0 m1 u0 u1 z0 z1 HM HB); obtain ⟨m0, m1⟩ := (hK.below (by omega) hk).duo; have HM := Lib.hid (hL.below (by omega) hk); obtain ⟨u0, u1⟩ := HM.out.duo; have z0 := HM.out.frozen 0; have z1 := HM.out.frozen 1; have HB := Lib.hid (hb.trans (hk.mono (by omega))); clear hk))
      | (go_at_call 20; ((with_reducible refine (HO.out _ hX).mono ?_); rintro z w2 ⟨rfl, hk⟩; (try clear hX); have hX := hk; (try clear m0 m1 u0 u1 z0 z1 HM HB); obtain ⟨m0, m1⟩ := (hK.below (by omega) hk).duo; have HM := Lib.hid (hL.below (by omega) hk); obtain ⟨u0, u1⟩ := HM.out.duo; have z0 := HM.out.frozen 0; have z1 := HM.out.frozen 1; have HB := Lib.hid (hb.trans (hk.mono (by omega))); clear hk)))
    exact bodyPost_ret (res_end2 rfl rfl rfl (HM.out.store 0 b).duo) rfl ⟨rfl, set2_below HB.out (by omega) 0 b⟩

set_option maxRecDepth 100000 in
theorem knext_any (i d : Int) (w : World) (hd : I64 d) : Calls Tryd.prog 13 #[E2 i d] w fun x w' => x = .returned (.tuple #[E2 (nxI i d) (nxD i d), .int .i64 (nxE i d)]) ∧ Below w.heap.size w w' := by
  have hM := fun X => kmov_any i d (1) (nxI i d) (nxD i d) (nxE i d) X hd (by constructor <;> decide) (by
    obtain ⟨d0, d1⟩ := hd
    rcases nxE_cases i d with ⟨e, rfl, rfl, q⟩ | ⟨e, rfl, h, q⟩ | ⟨e, rfl, rfl, q⟩ | ⟨e, rfl, rfl, q⟩ | ⟨e, q⟩
    · exact .inr (.inr ⟨rfl, e, q.1, by rw [q.2.1]; decide, by rw [q.2.2]; decide⟩)
    · exact .inr (.inr ⟨by simp [infB], e, q.1, by rw [q.2.1, fitV_in (by omega) (by omega)]; try omega, by rw [q.2.2, fitE_in (by omega) (by omega)]⟩)
    · exact .inl ⟨rfl, q.1, q.2.1, q.2.2⟩
    · exact .inl ⟨rfl, q.1, q.2.1, q.2.2⟩
    · rcases kchk_cases i d with ⟨h, h1⟩ | ⟨h, h2, h1⟩ | ⟨h, h2, h1⟩
      · rw [h1] at e; exact absurd e (by decide)
      · rw [h1] at e; exact absurd e (by decide)
      · exact .inr (.inl ⟨h2, e, q⟩))
  generalize nxI i d = a at *
  generalize nxD i d = b at *
  generalize nxE i d = e at *
  clear hd
  go_enter Tryd.func13, Tryd.ntmps13
  go_upto_region 1 with fail
  obtain ⟨hK, hL, hs, hb⟩ := two_end w i d 0 0 _ rfl
  generalize ((w.alloc (Obj.cells #[Value.int IntKind.i8 i, Value.int IntKind.i64 d] 24)).alloc (Obj.cells #[Value.int IntKind.i8 0, Value.int IntKind.i64 0] 24)) = W1 at *
  obtain ⟨f0, f1⟩ := id hK.duo
  have hX := Below.refl W1.heap.size W1
  have HV := Lib.hid (fun X (h : Below W1.heap.size W1 X) => callB hM h)
  clear hM
  go_wp2_with (go_at_call 28; ((with_reducible refine (HV.out _ hX).mono ?_); rintro z w2 ⟨rfl, hk⟩; (try clear hX); have hX := hk; (try clear m0 m1 u0 u1 z0 z1 HM HB); obtain ⟨m0, m1⟩ := (hK.below (by omega) hk).duo; have HM := Lib.hid (hL.below (by omega) hk); obtain ⟨u0, u1⟩ := HM.out.duo; have z0 := HM.out.frozen 0; have z1 := HM.out.frozen 1; have HB := Lib.hid (hb.trans (hk.mono (by omega))); clear hk))
  exact bodyPost_ret (res_end2 rfl rfl rfl (HM.out.store a b).duo) rfl ⟨rfl, set2_below HB.out (by omega) a b⟩

set_option maxRecDepth 100000 in
theorem kprev_any (i d : Int) (w : World) (hd : I64 d) : Calls Tryd.prog 14 #[E2 i d] w fun x w' => x = .returned (.tuple #[E2 (pvI i d) (pvD i d), .int .i64 (pvE i d)]) ∧ Below w.heap.size w w' := by
  have hM := fun X => kmov_any i d (-1) (pvI i d) (pvD i d) (pvE i d) X hd (by constructor <;> decide) (by
    obtain ⟨d0, d1⟩ := hd
    rcases pvE_cases i d with ⟨e, rfl, rfl, q⟩ | ⟨e, rfl, h, q⟩ | ⟨e, rfl, rfl, q⟩ | ⟨e, rfl, rfl, q⟩ | ⟨e, q⟩
    · exact .inr (.inr ⟨rfl, e, q.1, by rw [q.2.1]; decide, by rw [q.2.2]; decide⟩)
    · exact .inr (.inr ⟨by simp [infB], e, q.1, by rw [q.2.1, fitV_in (by omega) (by omega)]; try omega, by rw [q.2.2, fitE_in (by omega) (by omega)]⟩)
    · exact .inl ⟨rfl, q.1, q.2.1, q.2.2⟩
    · exact .inl ⟨rfl, q.1, q.2.1, q.2.2⟩
    · rcases kchk_cases i d with ⟨h, h1⟩ | ⟨h, h2, h1⟩ | ⟨h, h2, h1⟩
      · rw [h1] at e; exact absurd e (by decide)
      · rw [h1] at e; exact absurd e (by decide)
      · exact .inr (.inl ⟨h2, e, q⟩))
  generalize pvI i d = a at *
  generalize pvD i d = b at *
  generalize pvE i d = e at *
  clear hd
  go_enter Tryd.func14, Tryd.ntmps14
  go_upto_region 1 with fail
  obtain ⟨hK, hL, hs, hb⟩ := two_end w i d 0 0 _ rfl
  generalize ((w.alloc (Obj.cells #[Value.int IntKind.i8 i, Value.int IntKind.i64 d] 24)).alloc (Obj.cells #[Value.int IntKind.i8 0, Value.int IntKind.i64 0] 24)) = W1 at *
  obtain ⟨f0, f1⟩ := id hK.duo
  have hX := Below.refl W1.heap.size W1
  have HV := Lib.hid (fun X (h : Below W1.heap.size W1 X) => callB hM h)
  clear hM
  go_wp2_with (go_at_call 28; ((with_reducible refine (HV.out _ hX).mono ?_); rintro z w2 ⟨rfl, hk⟩; (try clear hX); have hX := hk; (try clear m0 m1 u0 u1 z0 z1 HM HB); obtain ⟨m0, m1⟩ := (hK.below (by omega) hk).duo; have HM := Lib.hid (hL.below (by omega) hk); obtain ⟨u0, u1⟩ := HM.out.duo; have z0 := HM.out.frozen 0; have z1 := HM.out.frozen 1; have HB := Lib.hid (hb.trans (hk.mono (by omega))); clear hk))
  exact bodyPost_ret (res_end2 rfl rfl rfl (HM.out.store a b).duo) rfl ⟨rfl, set2_below HB.out (by omega) a b⟩
end Go.Proofs.YtjgaoajbcbpbbaaDoor
