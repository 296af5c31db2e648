/- The functions of package ends, for the landed code: Of, isDay, isInfinity, Check. -/
import Derived.Test.YtjgaoajbcbpbbaaDoorEnd
import Derived.Test.YtjgaoajbcbpbbaaDoorEndB
namespace Go.Proofs.YtjgaoajbcbpbbaaDoor
open Go.RowKit

theorem kof_any (d : Int) (w : World) : Calls Tryd.prog 20 #[.int .i64 d] w fun x w' => x = .returned (E2 0 d) ∧ Below w.heap.size w w' := by
  go_enter Tryd.func20, Tryd.ntmps20
  go_upto_region 1 with fail
  obtain ⟨hK, hlt, hb⟩ := end_new w 0 0 _ rfl
  generalize (w.alloc (Obj.cells #[Value.int IntKind.i8 0, Value.int IntKind.i64 0] 24)) = W1 at *
  have z0 := hK.frozen 0
  have z1 := hK.frozen 1
  obtain ⟨f0, f1⟩ := id hK.duo
  have HK := Lib.hid hK
  have HB := Lib.hid hb
  clear hK hb
  go_wp2
  exact bodyPost_ret (res_end1 rfl rfl (HK.out.store 0 d).duo) rfl ⟨rfl, set2_below HB.out (Nat.le_refl _) 0 d⟩

theorem callB {f : FuncId} {args : Array Value} {v : Ending} {W X : World} (hc : ∀ X, Calls Tryd.prog f args X fun x w' => x = v ∧ Below X.heap.size X w') (h : Below W.heap.size W X) :
    Calls Tryd.prog f args X fun x w' => x = v ∧ Below W.heap.size W w' := (hc X).mono fun _ _ ⟨h1, h2⟩ => ⟨h1, h.trans (h2.mono h.size)⟩

set_option maxRecDepth 100000 in
theorem kday_any (i d : Int) (w : World) : Calls Tryd.prog 29 #[E2 i d] w fun x w' => x = .returned (.bool (decide (i = 0))) ∧ Below w.heap.size w w' := by
  have hv : end8.eqE i d 0 d = decide (i = 0) := by unfold end8.eqE; rw [beq_self_eq_true, Bool.and_true]; rfl
  have q := fun w => end8.eq_any i d 0 d w
  rw [hv] at q
  clear hv
  generalize decide (i = 0) = b at *
  go_enter Tryd.func29, Tryd.ntmps29
  go_upto_region 1 with fail
  obtain ⟨hK, hlt, hb⟩ := end_new w i d _ rfl
  generalize (w.alloc (Obj.cells #[Value.int IntKind.i8 i, Value.int IntKind.i64 d] 24)) = W1 at *
  obtain ⟨f0, f1⟩ := id hK.duo
  have HO := Lib.hid (fun X (h : Below W1.heap.size W1 X) => callB (kof_any d) h)
  go_region_held3 (fun x => x.cell? ⟨w.heap.size, 0, none⟩ = some (.int .i8 i) ∧ x.cell? ⟨w.heap.size, 1, none⟩ = some (.int .i64 d)) (go_keep)
    (first
      | (go_at_call 20; ((with_reducible refine (HO.out _ (by go_grown)).mono ?_); rintro e w2 ⟨rfl, hk⟩; (try clear m0 m1); obtain ⟨m0, m1⟩ := (hK.below hlt hk).duo)))
  all_goals
    have HB := Lib.hid (hb.trans (hk.mono (Nat.le_of_lt hlt)))
    go_wp2
    go_ret
    exact ⟨rfl, HB.out⟩

/-- Whether an end is an infinity. -/
def infB (i d : Int) : Bool := (i == -1 && d == 0) || (i == 1 && d == 0)
set_option maxRecDepth 100000 in
theorem kinf_any (i d : Int) (w : World) : Calls Tryd.prog 30 #[E2 i d] w fun x w' => x = .returned (.bool (infB i d)) ∧ Below w.heap.size w w' := by
  have q1 := fun w => end8.eq_any i d (-1) 0 w
  have q2 := fun w => end8.eq_any i d 1 0 w
  have hv : infB i d = (end8.eqE i d (-1) 0 || end8.eqE i d 1 0) := rfl
  rw [hv]; clear hv
  generalize end8.eqE i d (-1) 0 = b at *
  generalize end8.eqE i d 1 0 = c at *
  cases b
  all_goals
    go_enter Tryd.func30, Tryd.ntmps30
    go_upto_region 1 with fail
    obtain ⟨hK, hlt, hb⟩ := end_new w i d _ rfl
    generalize (w.alloc (Obj.cells #[Value.int IntKind.i8 i, Value.int IntKind.i64 d] 24)) = W1 at *
    obtain ⟨f0, f1⟩ := id hK.duo
    go_wp2
    go_ret
    exact ⟨rfl, hb⟩

theorem kchk_cases (i d : Int) : (i = 0 ∧ enE i d = 0) ∨ (¬ i = 0 ∧ infB i d = true ∧ enE i d = 0) ∨ (¬ i = 0 ∧ infB i d = false ∧ enE i d = 5) := by
  unfold infB
  rcases enE_cases i d with ⟨e, h⟩ | ⟨e, rfl, rfl⟩ | ⟨e, rfl, rfl⟩ | ⟨e, h0, ⟨rfl, h⟩ | ⟨rfl, h⟩ | ⟨h1, h2⟩⟩
  · exact .inl ⟨h, e⟩
  · exact .inr (.inl ⟨by decide, rfl, e⟩)
  · exact .inr (.inl ⟨by decide, rfl, e⟩)
  · exact .inr (.inr ⟨h0, by simp [h], e⟩)
  · exact .inr (.inr ⟨h0, by simp [h], e⟩)
  · exact .inr (.inr ⟨h0, by simp [h1, h2], e⟩)
set_option maxRecDepth 100000 in
theorem kchk_any (i d : Int) (w : World) : Calls Tryd.prog 17 #[E2 i d] w fun x w' => x = .returned (.int .i64 (enE i d)) ∧ Below w.heap.size w w' := by
  have hD := fun X => kday_any i d X
  have hI := fun X => kinf_any i d X
  rcases kchk_cases i d with ⟨h, e⟩ | ⟨h, h2, e⟩ | ⟨h, h2, e⟩
  · rw [decide_eq_true h] at hD
    rw [e]; clear e h hI
    go_enter Tryd.func17, Tryd.ntmps17
    go_upto_region 1 with fail
    obtain ⟨hK, hlt, hb⟩ := end_new w i d _ rfl
    generalize (w.alloc (Obj.cells #[Value.int IntKind.i8 i, Value.int IntKind.i64 d] 24)) = W1 at *
    obtain ⟨f0, f1⟩ := id hK.duo
    have HD := Lib.hid (fun X (h : Below W1.heap.size W1 X) => callB hD h)
    clear hD
    go_wp2_with (go_at_call 29; ((with_reducible refine (HD.out _ (by go_grown)).mono ?_); rintro e w2 ⟨rfl, hk⟩))
    go_ret
    exact ⟨rfl, hb.trans (hk.mono (Nat.le_of_lt hlt))⟩
  all_goals
    rw [decide_eq_false h] at hD
    rw [h2] at hI
    rw [e]; clear e h h2
    go_enter Tryd.func17, Tryd.ntmps17
    go_upto_region 1 with fail
    obtain ⟨hK, hlt, hb⟩ := end_new w i d _ rfl
    generalize (w.alloc (Obj.cells #[Value.int IntKind.i8 i, Value.int IntKind.i64 d] 24)) = W1 at *
    obtain ⟨f0, f1⟩ := id hK.duo
    have HD := Lib.hid (fun X (h : Below W1.heap.size W1 X) => callB hD h)
    have HI := Lib.hid (fun X (h : Below W1.heap.size W1 X) => callB hI h)
    clear hD hI
    go_wp2_with (first
      | (go_at_call 29; ((with_reducible refine (HD.out _ (by go_grown)).mono ?_); rintro e w2 ⟨rfl, hk⟩; obtain ⟨m0, m1⟩ := (hK.below hlt hk).duo))
      | (go_at_call 30; ((with_reducible refine (HI.out _ hk).mono ?_); rintro e w3 ⟨rfl, hk3⟩)))
    go_ret
    exact ⟨rfl, hb.trans (hk3.mono (Nat.le_of_lt hlt))⟩
end Go.Proofs.YtjgaoajbcbpbbaaDoor
