/- The reference's negation and comparison. -/
import Derived.Test.YtjgaoajbcbpbbaaDoorQAdd2
import Derived.Deep.RegionHeld3
namespace Go.Proofs.YtjgaoajbcbpbbaaDoor
open Go.RowKit

theorem two_new (w : World) (c0 c1 : Array Value) (W : World) (hW : W = (w.alloc (.cells c0 60)).alloc (.cells c1 60)) :
    Bk W w.heap.size c0 ∧ Bk W (w.heap.size + 1) c1 ∧ Below w.heap.size w W ∧ w.heap.size + 1 < W.heap.size := by
  subst hW
  refine ⟨(Bk.new w c0).alloc _, ?_, by go_grown, by simp⟩
  have := Bk.new (w.alloc (.cells c0 60)) c1
  simp only [World.size_alloc] at this
  exact this

set_option maxHeartbeats 800000 in
set_option maxRecDepth 100000 in
theorem neg_any (v : Value) (x : Int) (w : World) (hv : IsN w v x) (hx : x.natAbs < lim) :
    Calls Tryd.prog 52 #[v] w fun e w' => ∃ r, e = .returned r ∧ IsN w' r (-x) ∧ Below w.heap.size w w' := by
  obtain ⟨ds, h1, h2, h3, h4, h5⟩ := hv.len hx
  obtain ⟨A, c, rfl, hA⟩ := h1.open
  have e : sgv (!decide (x < 0)) (valD ds) = -x := by
    rw [h4]; unfold sgv; by_cases h : x < 0 <;> simp [h] <;> omega
  have HT : Hid (∀ W, Below w.heap.size w W → Calls Tryd.prog 44 #[.agg #[.bool (!decide (x < 0)), .slice A ds.length c]] W fun e w' => ∃ r, e = .returned r ∧ IsN w' r (-x) ∧ Below W.heap.size W w') := by
    intro W hW
    have := trim_any (.agg #[.bool (!decide (x < 0)), .slice A ds.length c]) (!decide (x < 0)) ds W ⟨_, rfl, hA.below hW (Nat.le_refl _)⟩ h2 (by omega)
    rw [e] at this
    exact this
  clear e hv h1
  generalize decide (x < 0) = n1 at *
  go_enter Tryd.func52, Tryd.ntmps52
  go_upto_region 1 with fail
  obtain ⟨b0, b1, hb, hsz⟩ := two_new w #[Value.bool n1, Value.slice A ds.length c] #[Value.bool false, Value.slice none 0 0] _ rfl
  generalize ((w.alloc (Obj.cells #[Value.bool n1, Value.slice A ds.length c] 60)).alloc (Obj.cells #[Value.bool false, Value.slice none 0 0] 60)) = W at *
  generalize e1 : w.heap.size + 1 = g1 at *
  have l1 : w.heap.size < g1 := by omega
  clear e1
  have f0 := b0.cell 0
  have f1 := b0.cell 1
  simp at f0 f1
  go_wp2_with (go_at_call 44; refine (HT.out _ hb).mono ?_; rintro e w1 ⟨r, rfl, hr, hb1⟩; obtain ⟨b4, A4, n4, c4, rfl⟩ := id hr.form; have q2 := b1.below hb1 b1.lt; have q20 := q2.cell 0; have q21 := q2.cell 1; have q22 := q2.frozen 0; have q23 := q2.frozen 1; simp at q20 q21)
  refine bodyPost_ret (res_struct (g := g1) rfl rfl (by simpa using (q2.put 0 (.bool b4)).put 1 (.slice A4 n4 c4))) rfl ?_
  refine ⟨_, rfl, (hr.put q2 0 _).put (q2.put 0 (.bool b4)) 1 _, ?_⟩
  have := hb.trans (hb1.mono hb.size)
  go_grown

theorem bcell {W w1 : World} (hb : Below W.heap.size W w1) : (∀ b o, b < W.heap.size → w1.cell? ⟨b, o, none⟩ = W.cell? ⟨b, o, none⟩) ∧ (∀ b o, b < W.heap.size → w1.frozen? ⟨b, o, none⟩ = W.frozen? ⟨b, o, none⟩) :=
  ⟨fun b o h => hb.cell (p := ⟨b, o, none⟩) h, fun b o h => hb.frozen (p := ⟨b, o, none⟩) h⟩
def cmpI (x y : Int) : Int := if x < y then -1 else if y < x then 1 else 0
set_option maxRecDepth 100000 in
set_option maxHeartbeats 1600000 in
theorem cmp_any (v u : Value) (x y : Int) (w : World) (hv : IsN w v x) (hu : IsN w u y) (hx : x.natAbs < lim) (hy : y.natAbs < lim) :
    Calls Tryd.prog 45 #[v, u] w fun e w' => e = .returned (.int .i64 (cmpI x y)) ∧ Below w.heap.size w w' := by
  obtain ⟨b1, A1, m1, c1, rfl⟩ := id hv.form
  obtain ⟨b2, A2, m2, c2, rfl⟩ := id hu.form
  go_enter Tryd.func45, Tryd.ntmps45
  go_upto_region 1 with fail
  obtain ⟨b0, b1', hb, hsz⟩ := two_new w #[Value.bool b1, Value.slice A1 m1 c1] #[Value.bool b2, Value.slice A2 m2 c2] _ rfl
  generalize ((w.alloc (Obj.cells #[Value.bool b1, Value.slice A1 m1 c1] 60)).alloc (Obj.cells #[Value.bool b2, Value.slice A2 m2 c2] 60)) = W at *
  generalize e1 : w.heap.size + 1 = g1 at *
  have l1 : w.heap.size < g1 := by omega
  have l0 : w.heap.size < W.heap.size := by omega
  clear e1
  have f0 := b0.cell 0
  have f1 := b0.cell 1
  have f2 := b1'.cell 0
  have f3 := b1'.cell 1
  simp at f0 f1 f2 f3
  have HN : Hid (∀ X, Below W.heap.size W X → Calls Tryd.prog 52 #[.agg #[.bool b2, .slice A2 m2 c2]] X fun e w' => ∃ r, e = .returned r ∧ IsN w' r (-y) ∧ Below X.heap.size X w' ∧ Below W.heap.size W w') :=
    fun X hX => (neg_any _ y X (hu.below (hb.trans (hX.mono hb.size))) hy).mono fun _ _ ⟨r, h1, h2, h3⟩ => ⟨r, h1, h2, h3, hX.trans (h3.mono hX.size)⟩
  have HA : Hid (∀ X z, Below W.heap.size W X → IsN X z (-y) → Calls Tryd.prog 51 #[.agg #[.bool b1, .slice A1 m1 c1], z] X fun e w' => ∃ r, e = .returned r ∧ IsN w' r (x + -y) ∧ Below X.heap.size X w' ∧ Below W.heap.size W w') :=
    fun X z hX hz => (addN_any _ _ x (-y) X (hv.below (hb.trans (hX.mono hb.size))) hz hx (by rw [Int.natAbs_neg]; exact hy)).mono fun _ _ ⟨r, h1, h2, h3⟩ => ⟨r, h1, h2, h3, hX.trans (h3.mono hX.size)⟩
  have l2 : g1 < W.heap.size := hsz
  have d1 : ¬ W.heap.size = w.heap.size := by omega
  have d2 : ¬ W.heap.size = g1 := by omega
  clear hv hu b0 b1'
  go_cut [5] (fun s5 wx => ∃ g b A n c, s5 = .pointer (some ⟨g, 0, none⟩) ∧ IsN wx (.agg #[.bool b, .slice A n c]) (x + -y) ∧ Bk wx g #[.bool b, .slice A n c] ∧ Below w.heap.size w wx)
  case first =>
    go_region_held3 (fun w' => w'.cell? ⟨w.heap.size, 0, none⟩ = some (.bool b1) ∧ w'.cell? ⟨w.heap.size, 1, none⟩ = some (.slice A1 m1 c1) ∧ w'.cell? ⟨g1, 0, none⟩ = some (.bool b2) ∧ w'.cell? ⟨g1, 1, none⟩ = some (.slice A2 m2 c2)) (go_keep)
      (first
      | (go_at_call 52; refine (HN.out _ (by go_grown)).mono ?_; rintro e w1 ⟨r, rfl, hr, hb1, hX1⟩; obtain ⟨b4, A4, n4, c4, rfl⟩ := id hr.form; obtain ⟨hc1, hf1⟩ := bcell hb1; have hz1 := hb1.size; (try simp at hz1); have d3 : ¬ w1.heap.size = w.heap.size := (by omega); have d4 : ¬ w1.heap.size = g1 := (by omega); (try (have hz1' : W.heap.size < w1.heap.size := (by omega))); have k0 := (hX1.cell (p := ⟨w.heap.size, 0, none⟩) l0).trans f0; have k1 := (hX1.cell (p := ⟨w.heap.size, 1, none⟩) l0).trans f1; have k2 := (hX1.cell (p := ⟨g1, 0, none⟩) l2).trans f2; have k3 := (hX1.cell (p := ⟨g1, 1, none⟩) l2).trans f3)
      | (go_at_call 51; refine (HA.out _ _ (by go_grown) (by first | exact hr | exact hr.below (by go_grown))).mono ?_; rintro e w2 ⟨r, rfl, hr2, hb2, hX2⟩; obtain ⟨b5, A5, n5, c5, rfl⟩ := id hr2.form; obtain ⟨hc2, hf2⟩ := bcell hb2; have hz2 := hb2.size; (try simp at hz2); have d5 : ¬ w2.heap.size = w.heap.size := (by omega); have d6 : ¬ w2.heap.size = g1 := (by omega); (try (have hz2' : W.heap.size < w2.heap.size := (by omega))); have k0 := (hX2.cell (p := ⟨w.heap.size, 0, none⟩) l0).trans f0; have k1 := (hX2.cell (p := ⟨w.heap.size, 1, none⟩) l0).trans f1; have k2 := (hX2.cell (p := ⟨g1, 0, none⟩) l2).trans f2; have k3 := (hX2.cell (p := ⟨g1, 1, none⟩) l2).trans f3))
    all_goals
      go_wp2_with fail
      go_meet
    · exact ⟨_, b5, A5, n5, c5, rfl, hr2.below ((Below.refl _ _).alloc (Nat.le_refl _) _), Bk.new _ _, hb.trans ((hX2.mono hb.size).alloc (by have := hX2.size; have := hb.size; omega) _)⟩
    · have hB : Bk w2 w1.heap.size #[.bool false, .slice none 0 0] := (Bk.new w1 _).below hb2 (by simp)
      exact ⟨_, b5, A5, n5, c5, rfl, (hr2.put hB 0 _).put (hB.put 0 (.bool b5)) 1 _, by simpa using (hB.put 0 (.bool b5)).put 1 (.slice A5 n5 c5), ((hb.trans (hX2.mono hb.size)).setCell (by have := hX1.size; have := hb.size; simp; omega) _).setCell (by have := hX1.size; have := hb.size; simp; omega) _⟩
    · have hB0 : Bk w1 W.heap.size #[.bool false, .slice none 0 0] := (Bk.new W.drew _).below hb1 (by simp)
      have hB : Bk w2 W.heap.size #[.bool false, .slice none 0 0] := hB0.below hb2 hB0.lt
      exact ⟨_, b5, A5, n5, c5, rfl, (hr2.put hB 0 _).put (hB.put 0 (.bool b5)) 1 _, by simpa using (hB.put 0 (.bool b5)).put 1 (.slice A5 n5 c5), ((hb.trans (hX2.mono hb.size)).setCell (by have := hb.size; simp; omega) _).setCell (by have := hb.size; simp; omega) _⟩
  case rest =>
    obtain ⟨g, b, A, n, c, rfl, ⟨ds, hr1, hr2, hr3, hr4⟩, hB, hbw⟩ := hcut
    obtain ⟨u, hu1, hu2⟩ := hr1
    injection hu1 with hu1
    simp at hu1
    obtain ⟨rfl, rfl⟩ := hu1
    obtain ⟨A', c', hu3, _⟩ := hu2
    injection hu3 with _ hn _
    subst hn
    have q0 := hB.cell 0
    have q1 := hB.cell 1
    simp at q0 q1
    have hz := tidy_zero hr3
    by_cases h1 : x < y
    · have t1 : decide (x + -y < 0) = true := by simp; omega
      have hc : cmpI x y = -1 := by unfold cmpI; rw [if_pos h1]
      rw [t1] at q0
      have HC := Lib.hid hc
      clear hc t1 hz hr4 h1
      go_wp2_with fail
      go_ret
      exact ⟨ret_i HC.out.symm, hbw⟩
    · have t1 : decide (x + -y < 0) = false := by simp; omega
      rw [t1] at q0
      by_cases h2 : y < x
      · have hl : 0 < ds.length := by
          rcases Nat.eq_zero_or_pos ds.length with h | h
          · have := hz.2 (List.eq_nil_of_length_eq_zero h); omega
          · exact h
        have hc : cmpI x y = 1 := by unfold cmpI; rw [if_neg h1, if_pos h2]
        have HC := Lib.hid hc
        clear hc t1 hz hr4 h1 h2
        go_wp2_with fail
        go_ret
        exact ⟨ret_i HC.out.symm, hbw⟩
      · have hl : ds.length = 0 := by
          have := hz.1 (by omega)
          rw [this]; rfl
        have hc : cmpI x y = 0 := by unfold cmpI; rw [if_neg h1, if_neg h2]
        rw [hl] at q1
        have HC := Lib.hid hc
        clear hc t1 hz hr4 h1 h2 hl
        go_wp2_with fail
        go_ret
        exact ⟨ret_i HC.out.symm, hbw⟩
end Go.Proofs.YtjgaoajbcbpbbaaDoor
