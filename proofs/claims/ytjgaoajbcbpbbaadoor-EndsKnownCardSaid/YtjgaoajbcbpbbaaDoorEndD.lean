/- The functions of package ends, for the landed code: Compare, Min, Max. -/
import Derived.Test.YtjgaoajbcbpbbaaDoorEndC
import Derived.Test.YtjgaoajbcbpbbaaDoorEndR
import Derived.WalkKit
namespace Go.Proofs.YtjgaoajbcbpbbaaDoor
open Go.RowKit

theorem knan8 (a : Int) (w : World) : Calls Tryd.prog 38 #[.int .i8 a] w fun x w' => x = .returned (.bool false) ∧ w = w' := by
  have q : (a != a) = false := by simp
  go_enter Tryd.func38, Tryd.ntmps38
  go_wp2
  go_ret
  exact ⟨rfl, rfl⟩
theorem knan64 (a : Int) (w : World) : Calls Tryd.prog 39 #[.int .i64 a] w fun x w' => x = .returned (.bool false) ∧ w = w' := by
  have q : (a != a) = false := by simp
  go_enter Tryd.func39, Tryd.ntmps39
  go_wp2
  go_ret
  exact ⟨rfl, rfl⟩
/-- How two numbers compare. -/
def cmV (a b : Int) : Int := if a < b then -1 else if b < a then 1 else 0
theorem cmV_cases (a b : Int) : (a < b ∧ cmV a b = -1) ∨ (¬ a < b ∧ b < a ∧ cmV a b = 1) ∨ (¬ a < b ∧ ¬ b < a ∧ cmV a b = 0) := by
  unfold cmV
  by_cases h1 : a < b
  · simp [h1]
  · by_cases h2 : b < a <;> simp [h1, h2]
theorem kcmp8 (a b : Int) (w : World) : Calls Tryd.prog 26 #[.int .i8 a, .int .i8 b] w fun x w' => x = .returned (.int .i64 (cmV a b)) ∧ w = w' := by
  have HN := Lib.hid knan8
  rcases cmV_cases a b with ⟨h1, e⟩ | ⟨h1, h2, e⟩ | ⟨h1, h2, e⟩
  all_goals
    rw [e]; clear e
    go_enter Tryd.func26, Tryd.ntmps26
    go_wp2_with (go_at_call 38; ((with_reducible refine (HN.out _ _).mono ?_); rintro e w2 ⟨rfl, rfl⟩))
    go_ret
    exact ⟨rfl, rfl⟩
theorem kcmp64 (a b : Int) (w : World) : Calls Tryd.prog 27 #[.int .i64 a, .int .i64 b] w fun x w' => x = .returned (.int .i64 (cmV a b)) ∧ w = w' := by
  have HN := Lib.hid knan64
  rcases cmV_cases a b with ⟨h1, e⟩ | ⟨h1, h2, e⟩ | ⟨h1, h2, e⟩
  all_goals
    rw [e]; clear e
    go_enter Tryd.func27, Tryd.ntmps27
    go_wp2_with (go_at_call 39; ((with_reducible refine (HN.out _ _).mono ?_); rintro e w2 ⟨rfl, rfl⟩))
    go_ret
    exact ⟨rfl, rfl⟩
/-- The first one of two numbers that is not 0. -/
def orV (a b : Int) : Int := if a = 0 then b else a
theorem kor_any (g : Nat) (a b : Int) (w : World) (h0 : w.cell? ⟨g, 0, none⟩ = some (.int .i64 a)) (h1 : w.cell? ⟨g, 1, none⟩ = some (.int .i64 b)) :
    Calls Tryd.prog 25 #[.slice (some ⟨g, 0, none⟩) 2 2] w fun x w' => x = .returned (.int .i64 (orV a b)) ∧ w = w' := by
  by_cases ha : a = 0
  · by_cases hb : b = 0
    · subst ha; subst hb
      go_enter Tryd.func25, Tryd.ntmps25
      go_wp2
      refine wp_loop_rounds 3 ?_
      rw [rounds_succ]; go_wp2
      rw [rounds_succ]; go_wp2
      rw [rounds_succ]; go_wp2
      go_ret
      exact ⟨rfl, rfl⟩
    · have q : (b != 0) = true := by simp [hb]
      have e : orV a b = b := if_pos ha
      subst ha
      rw [e]; clear e
      go_enter Tryd.func25, Tryd.ntmps25
      go_wp2
      refine wp_loop_rounds 3 ?_
      rw [rounds_succ]; go_wp2
      rw [rounds_succ]; go_wp2
      go_ret
      exact ⟨rfl, rfl⟩
  · have q : (a != 0) = true := by simp [ha]
    have e : orV a b = a := if_neg ha
    rw [e]; clear e
    go_enter Tryd.func25, Tryd.ntmps25
    go_wp2
    refine wp_loop_rounds 3 ?_
    rw [rounds_succ]; go_wp2
    go_ret
    exact ⟨rfl, rfl⟩
theorem enC_or (i d j e : Int) : enC i d j e = orV (cmV i j) (cmV d e) := by
  unfold enC orV cmV
  by_cases h1 : i < j
  · simp [h1]
  · by_cases h2 : j < i <;> simp [h1, h2]
set_option maxHeartbeats 1000000 in
set_option maxRecDepth 100000 in
theorem kcomp_any (i d j e : Int) (w : World) : Calls Tryd.prog 8 #[E2 i d, E2 j e] w fun x w' => x = .returned (.int .i64 (enC i d j e)) ∧ Below w.heap.size w w' := by
  have q := fun w => end8.eq_any i d j e w
  cases hq : end8.eqE i d j e
  · rw [hq] at q; clear hq
    rw [enC_or]
    have H8 := Lib.hid (fun X => kcmp8 i j X)
    have H64 := Lib.hid (fun X => kcmp64 d e X)
    generalize cmV i j = a at *
    generalize cmV d e = b at *
    generalize hr : orV a b = r
    go_enter Tryd.func8, Tryd.ntmps8
    go_upto_region 1 with fail
    obtain ⟨hK, hL, hs, hb⟩ := two_end w i d j e _ rfl
    generalize ((w.alloc (Obj.cells #[Value.int IntKind.i8 i, Value.int IntKind.i64 d] 24)).alloc (Obj.cells #[Value.int IntKind.i8 j, Value.int IntKind.i64 e] 24)) = W1 at *
    obtain ⟨f0, f1⟩ := id hK.duo
    obtain ⟨l0, l1⟩ := id hL.duo
    have HR : Hid (Calls Tryd.prog 25 #[.slice (some ⟨W1.heap.size, 0, none⟩) 2 2] (W1.alloc (.cells #[.int .i64 a, .int .i64 b] 3)).drew fun x w' => x = .returned (.int .i64 r) ∧ (W1.alloc (.cells #[.int .i64 a, .int .i64 b] 3)).drew = w') := by
      have hX := heap_alloc_new W1.drew (.cells #[.int .i64 a, .int .i64 b] 3)
      rw [← hr]
      exact kor_any _ a b _ (cell_of_row _ _ 0 _ _ _ hX) (cell_of_row _ _ 1 _ _ _ hX)
    have HB := Lib.hid hb
    clear hr hK hL hb hs
    go_wp2_with fail
    clear q
    go_region_held3 (fun x => x.cell? ⟨w.heap.size, 0, none⟩ = some (.int .i8 i) ∧ x.cell? ⟨w.heap.size, 1, none⟩ = some (.int .i64 d) ∧ x.cell? ⟨w.heap.size + 1, 0, none⟩ = some (.int .i8 j) ∧ x.cell? ⟨w.heap.size + 1, 1, none⟩ = some (.int .i64 e)) (go_keep) (first
      | (go_at_call 26; ((with_reducible refine (H8.out _).mono ?_); rintro e w2 ⟨rfl, rfl⟩))
      | (go_at_call 27; ((with_reducible refine (H64.out _).mono ?_); rintro e w2 ⟨rfl, rfl⟩))
      | (go_at_call 25; ((with_reducible refine HR.out.mono ?_); rintro e w2 ⟨rfl, rfl⟩)))
    all_goals
      go_wp2
      go_ret
      exact ⟨rfl, HB.out.trans ((show Below W1.heap.size W1 _ from by go_grown).mono HB.out.size)⟩
  · obtain ⟨rfl, rfl⟩ := end8.eqE_iff.1 hq
    rw [hq] at q; clear hq
    have he : enC i d i d = 0 := by unfold enC; simp
    rw [he]; clear he
    go_enter Tryd.func8, Tryd.ntmps8
    go_upto_region 1 with fail
    obtain ⟨hK, hL, hs, hb⟩ := two_end w i d i d _ rfl
    generalize ((w.alloc (Obj.cells #[Value.int IntKind.i8 i, Value.int IntKind.i64 d] 24)).alloc (Obj.cells #[Value.int IntKind.i8 i, Value.int IntKind.i64 d] 24)) = W1 at *
    obtain ⟨f0, f1⟩ := id hK.duo
    obtain ⟨l0, l1⟩ := id hL.duo
    have HB := Lib.hid hb
    clear hb hK hL
    go_wp2_with fail
    go_ret
    exact ⟨rfl, HB.out⟩

theorem three_end (w : World) (i d j e k f : Int) (W : World) (hW : W = ((w.alloc (.cells #[.int .i8 i, .int .i64 d] 24)).alloc (.cells #[.int .i8 j, .int .i64 e] 24)).alloc (.cells #[.int .i8 k, .int .i64 f] 24)) : BkE W w.heap.size i d ∧ BkE W (w.heap.size + 1) j e ∧ BkE W (w.heap.size + 1 + 1) k f ∧ W.heap.size = w.heap.size + 3 ∧ Below w.heap.size w W := by
  obtain ⟨h1, h2, h3, h4⟩ := two_end w i d j e _ rfl
  generalize ((w.alloc (.cells #[.int .i8 i, .int .i64 d] 24)).alloc (.cells #[.int .i8 j, .int .i64 e] 24)) = X at *
  obtain ⟨k1, k2, k3⟩ := end_new X k f W hW
  refine ⟨h1.below (by omega) k3, h2.below (by omega) k3, by rw [h3] at k1; exact k1, by subst hW; simp [h3], h4.trans (k3.mono (by omega))⟩

/-- The lesser one of two ends, the greater one: its field, by those of both. -/
def mnV (i d j e x y : Int) : Int := if enC i d j e ≤ 0 then x else y
def mxV (i d j e x y : Int) : Int := if 0 ≤ enC i d j e then x else y
set_option maxRecDepth 100000 in
theorem kmin_any (i d j e : Int) (w : World) : Calls Tryd.prog 10 #[E2 i d, E2 j e] w fun x w' => x = .returned (E2 (mnV i d j e i j) (mnV i d j e d e)) ∧ Below w.heap.size w w' := by
  have hC := fun X => kcomp_any i d j e X
  unfold mnV
  generalize enC i d j e = r at *
  by_cases hr : r ≤ 0
  · rw [if_pos hr, if_pos hr]
    go_enter Tryd.func10, Tryd.ntmps10
    go_upto_region 1 with fail
    obtain ⟨hK, hL, hM, hs, hb⟩ := three_end w i d j e 0 0 _ rfl
    generalize (((w.alloc (Obj.cells #[Value.int IntKind.i8 i, Value.int IntKind.i64 d] 24)).alloc (Obj.cells #[Value.int IntKind.i8 j, Value.int IntKind.i64 e] 24)).alloc (Obj.cells #[Value.int IntKind.i8 0, Value.int IntKind.i64 0] 24)) = W1 at *
    obtain ⟨f0, f1⟩ := id hK.duo
    obtain ⟨l0, l1⟩ := id hL.duo
    have HC := Lib.hid (fun X (h : Below W1.heap.size W1 X) => callB hC h)
    clear hC
    go_wp2_with (go_at_call 8; ((with_reducible refine (HC.out _ (by go_grown)).mono ?_); rintro z w2 ⟨rfl, hk⟩; obtain ⟨m0, m1⟩ := (hK.below (by omega) hk).duo; obtain ⟨n0, n1⟩ := (hL.below (by omega) hk).duo; have HM := Lib.hid (hM.below (by omega) hk); obtain ⟨u0, u1⟩ := HM.out.duo; have z0 := HM.out.frozen 0; have z1 := HM.out.frozen 1; have HB := Lib.hid (hb.trans (hk.mono (by omega))); clear hk hK hL hM hs hb))
    exact bodyPost_ret (res_end1 rfl rfl (HM.out.store i d).duo) rfl ⟨rfl, set2_below HB.out (by omega) i d⟩
  · rw [if_neg hr, if_neg hr]
    go_enter Tryd.func10, Tryd.ntmps10
    go_upto_region 1 with fail
    obtain ⟨hK, hL, hM, hs, hb⟩ := three_end w i d j e 0 0 _ rfl
    generalize (((w.alloc (Obj.cells #[Value.int IntKind.i8 i, Value.int IntKind.i64 d] 24)).alloc (Obj.cells #[Value.int IntKind.i8 j, Value.int IntKind.i64 e] 24)).alloc (Obj.cells #[Value.int IntKind.i8 0, Value.int IntKind.i64 0] 24)) = W1 at *
    obtain ⟨f0, f1⟩ := id hK.duo
    obtain ⟨l0, l1⟩ := id hL.duo
    have HC := Lib.hid (fun X (h : Below W1.heap.size W1 X) => callB hC h)
    clear hC
    go_wp2_with (go_at_call 8; ((with_reducible refine (HC.out _ (by go_grown)).mono ?_); rintro z w2 ⟨rfl, hk⟩; obtain ⟨m0, m1⟩ := (hK.below (by omega) hk).duo; obtain ⟨n0, n1⟩ := (hL.below (by omega) hk).duo; have HM := Lib.hid (hM.below (by omega) hk); obtain ⟨u0, u1⟩ := HM.out.duo; have z0 := HM.out.frozen 0; have z1 := HM.out.frozen 1; have HB := Lib.hid (hb.trans (hk.mono (by omega))); clear hk hK hL hM hs hb))
    exact bodyPost_ret (res_end1 rfl rfl (HM.out.store j e).duo) rfl ⟨rfl, set2_below HB.out (by omega) j e⟩
set_option maxRecDepth 100000 in
theorem kmax_any (i d j e : Int) (w : World) : Calls Tryd.prog 11 #[E2 i d, E2 j e] w fun x w' => x = .returned (E2 (mxV i d j e i j) (mxV i d j e d e)) ∧ Below w.heap.size w w' := by
  have hC := fun X => kcomp_any i d j e X
  unfold mxV
  generalize enC i d j e = r at *
  by_cases hr : 0 ≤ r
  · rw [if_pos hr, if_pos hr]
    go_enter Tryd.func11, Tryd.ntmps11
    go_upto_region 1 with fail
    obtain ⟨hK, hL, hM, hs, hb⟩ := three_end w i d j e 0 0 _ rfl
    generalize (((w.alloc (Obj.cells #[Value.int IntKind.i8 i, Value.int IntKind.i64 d] 24)).alloc (Obj.cells #[Value.int IntKind.i8 j, Value.int IntKind.i64 e] 24)).alloc (Obj.cells #[Value.int IntKind.i8 0, Value.int IntKind.i64 0] 24)) = W1 at *
    obtain ⟨f0, f1⟩ := id hK.duo
    obtain ⟨l0, l1⟩ := id hL.duo
    have HC := Lib.hid (fun X (h : Below W1.heap.size W1 X) => callB hC h)
    clear hC
    go_wp2_with (go_at_call 8; ((with_reducible refine (HC.out _ (by go_grown)).mono ?_); rintro z w2 ⟨rfl, hk⟩; obtain ⟨m0, m1⟩ := (hK.below (by omega) hk).duo; obtain ⟨n0, n1⟩ := (hL.below (by omega) hk).duo; have HM := Lib.hid (hM.below (by omega) hk); obtain ⟨u0, u1⟩ := HM.out.duo; have z0 := HM.out.frozen 0; have z1 := HM.out.frozen 1; have HB := Lib.hid (hb.trans (hk.mono (by omega))); clear hk hK hL hM hs hb))
    exact bodyPost_ret (res_end1 rfl rfl (HM.out.store i d).duo) rfl ⟨rfl, set2_below HB.out (by omega) i d⟩
  · rw [if_neg hr, if_neg hr]
    go_enter Tryd.func11, Tryd.ntmps11
    go_upto_region 1 with fail
    obtain ⟨hK, hL, hM, hs, hb⟩ := three_end w i d j e 0 0 _ rfl
    generalize (((w.alloc (Obj.cells #[Value.int IntKind.i8 i, Value.int IntKind.i64 d] 24)).alloc (Obj.cells #[Value.int IntKind.i8 j, Value.int IntKind.i64 e] 24)).alloc (Obj.cells #[Value.int IntKind.i8 0, Value.int IntKind.i64 0] 24)) = W1 at *
    obtain ⟨f0, f1⟩ := id hK.duo
    obtain ⟨l0, l1⟩ := id hL.duo
    have HC := Lib.hid (fun X (h : Below W1.heap.size W1 X) => callB hC h)
    clear hC
    go_wp2_with (go_at_call 8; ((with_reducible refine (HC.out _ (by go_grown)).mono ?_); rintro z w2 ⟨rfl, hk⟩; obtain ⟨m0, m1⟩ := (hK.below (by omega) hk).duo; obtain ⟨n0, n1⟩ := (hL.below (by omega) hk).duo; have HM := Lib.hid (hM.below (by omega) hk); obtain ⟨u0, u1⟩ := HM.out.duo; have z0 := HM.out.frozen 0; have z1 := HM.out.frozen 1; have HB := Lib.hid (hb.trans (hk.mono (by omega))); clear hk hK hL hM hs hb))
    exact bodyPost_ret (res_end1 rfl rfl (HM.out.store j e).duo) rfl ⟨rfl, set2_below HB.out (by omega) j e⟩
end Go.Proofs.YtjgaoajbcbpbbaaDoor
