/- The law MonthsBetween: it returns true for every two months. -/
import Derived.Test.YtlcilodpelmccaaDoorMonDays
namespace Go.Proofs.YtlcilodpelmccaaDoor.mon
open Go.RowKit

/-- Four numbers in a block of the law's. -/
def Four (g : Nat) (a b c d : Int) (X : World) : Prop := X.cell? ⟨g, 0, none⟩ = some (.int .i64 a) ∧ X.cell? ⟨g, 1, none⟩ = some (.int .i64 b) ∧ X.cell? ⟨g, 2, none⟩ = some (.int .i64 c) ∧ X.cell? ⟨g, 3, none⟩ = some (.int .i64 d)
theorem four_new (w : World) (a b c d : Int) (t : TypeId) (W : World) (hW : W = w.alloc (.cells #[.int .i64 a, .int .i64 b, .int .i64 c, .int .i64 d] t)) :
    Four w.heap.size a b c d W ∧ w.heap.size < W.heap.size ∧ Below w.heap.size w W := by
  subst hW
  refine ⟨⟨?_, ?_, ?_, ?_⟩, by simp, by go_grown⟩
  · rw [cell_of_row _ _ 0 _ _ (0, 0) (heap_alloc_new w _)]; rfl
  · rw [cell_of_row _ _ 1 _ _ (0, 0) (heap_alloc_new w _)]; rfl
  · rw [cell_of_row _ _ 2 _ _ (0, 0) (heap_alloc_new w _)]; rfl
  · rw [cell_of_row _ _ 3 _ _ (0, 0) (heap_alloc_new w _)]; rfl
theorem Four.below {g : Nat} {a b c d : Int} {X Y : World} (h : Four g a b c d X) (hg : g < X.heap.size) (hb : Below X.heap.size X Y) : Four g a b c d Y :=
  ⟨(hb.cell (p := ⟨g, 0, none⟩) hg).trans h.1, (hb.cell (p := ⟨g, 1, none⟩) hg).trans h.2.1, (hb.cell (p := ⟨g, 2, none⟩) hg).trans h.2.2.1, (hb.cell (p := ⟨g, 3, none⟩) hg).trans h.2.2.2⟩

set_option maxRecDepth 100000 in
set_option maxHeartbeats 8000000 in
theorem between_law (y z m n : Int) (w W : World) (y0 : -9223372036854775808 ≤ y) (y1 : y ≤ 9223372036854775807) (z0 : -9223372036854775808 ≤ z) (z1 : z ≤ 9223372036854775807) (m0 : -9223372036854775808 ≤ m) (m1 : m ≤ 9223372036854775807) (n0 : -9223372036854775808 ≤ n) (n1 : n ≤ 9223372036854775807) (h : Ok w W) :
    Calls Tryd.prog 6 #[.agg #[.int .i64 y, .int .i64 z, .int .i64 m, .int .i64 n]] W fun e w' => e = .returned (.bool true) ∧ Ok w w' := by
  have hy := i64_of y0 y1
  have hz := i64_of z0 z1
  have hm := i64_of m0 m1
  have hn := i64_of n0 n1
  go_enter Tryd.func6, Tryd.ntmps6
  go_upto_region 1 with fail
  obtain ⟨f4, hlt, hb⟩ := four_new W y z m n 48 _ rfl
  have ho := h.step hb
  generalize (W.alloc (Obj.cells #[Value.int IntKind.i64 y, Value.int IntKind.i64 z, Value.int IntKind.i64 m, Value.int IntKind.i64 n] 48)) = W1 at *
  generalize W.heap.size = g at *
  clear h hb
  have KA : Hid (∀ X, Below W1.heap.size W1 X → Calls Tryd.prog 24 #[.int .i64 y, .int .i64 m, .int .i64 z, .int .i64 n] X fun x w' => x = .returned (.tuple #[.int .i64 (bV y m z n), .int .i64 (bE y m z n)]) ∧ Below W1.heap.size W1 w') := fun X hX => (c_between (Ok.refl (ho.1.below hX)) y m hy hm z n hz hn rfl rfl).mono fun _ _ ⟨h1, h2⟩ => ⟨h1, hX.trans (h2.2.mono hX.size)⟩
  have KB : Hid (∀ X, Below W1.heap.size W1 X → Calls Tryd.prog 24 #[.int .i64 z, .int .i64 n, .int .i64 y, .int .i64 m] X fun x w' => x = .returned (.tuple #[.int .i64 (bV z n y m), .int .i64 (bE z n y m)]) ∧ Below W1.heap.size W1 w') := fun X hX => (c_between (Ok.refl (ho.1.below hX)) z n hz hn y m hy hm rfl rfl).mono fun _ _ ⟨h1, h2⟩ => ⟨h1, hX.trans (h2.2.mono hX.size)⟩
  have RA : Hid (∀ X, Calls Tryd.prog 11 #[.int .i64 y, .int .i64 m] X fun x w' => x = .returned (.int .i64 (mE y m)) ∧ X = w') := fun X => mchkR_any y m X
  have RB : Hid (∀ X, Calls Tryd.prog 11 #[.int .i64 z, .int .i64 n] X fun x w' => x = .returned (.int .i64 (mE z n)) ∧ X = w') := fun X => mchkR_any z n X
  obtain ⟨f0, f1, f2, f3⟩ := id f4
  go_upto_region 2 with (go_at_call 24; refine (KA.out _ (by go_grown)).mono ?_; rintro e x1 ⟨rfl, hX⟩; obtain ⟨c0, c1, c2, c3⟩ := f4.below hlt hX)
  go_upto_region 3 with (go_at_call 24; refine (KB.out _ (by go_grown)).mono ?_; rintro e x2 ⟨rfl, hX2⟩; obtain ⟨e0, e1, e2, e3⟩ := f4.below hlt hX2)
  go_region_held3 (fun w' => w'.cell? ⟨g, 0, none⟩ = some (.int .i64 y) ∧ w'.cell? ⟨g, 1, none⟩ = some (.int .i64 z) ∧ w'.cell? ⟨g, 2, none⟩ = some (.int .i64 m) ∧ w'.cell? ⟨g, 3, none⟩ = some (.int .i64 n)) (go_keep)
    (first
    | (go_at_call 11; ((with_reducible refine (RA.out _).mono ?_); rintro e w' ⟨rfl, rfl⟩))
    | (go_at_call 11; ((with_reducible refine (RB.out _).mono ?_); rintro e w' ⟨rfl, rfl⟩)))
  all_goals
    clear KA KB RA RB c0 c1 c2 c3 e0 e1 e2 e3 f0 f1 f2 f3 hX
    obtain ⟨p0, p1⟩ := mE_bd y m
    obtain ⟨q0, q1⟩ := mE_bd z n
    by_cases ha : mE y m = 0
    · by_cases hb : mE z n = 0
      · obtain ⟨ya, ma⟩ := mE_zero.1 ha
        obtain ⟨yb, mb⟩ := mE_zero.1 hb
        obtain ⟨r0, r1⟩ := (yr_iff _).1 ya
        obtain ⟨r2, r3⟩ := (yr_iff _).1 yb
        obtain ⟨s0, s1⟩ := (mo_iff _).1 ma
        obtain ⟨s2, s3⟩ := (mo_iff _).1 mb
        have v1 : bV y m z n = 12 * (z - y) + (n - m) := if_pos ⟨ha, hb⟩
        have v2 : bV z n y m = 12 * (y - z) + (m - n) := if_pos ⟨hb, ha⟩
        have v3 : bE y m z n = 0 := by unfold bE; rw [if_pos ha]; exact hb
        have v4 : bE z n y m = 0 := by unfold bE; rw [if_pos hb]; exact ha
        obtain ⟨K, hK⟩ : ∃ K, 12 * (z - y) + (n - m) = K := ⟨_, rfl⟩
        have v5 : 12 * (y - z) + (m - n) = -K := by omega
        obtain ⟨a1, a2⟩ := ad_eq (y := y) (m := m) (k := K) (z := z) (n := n) (by unfold ixI; omega) s2 s3
        have RD : Hid (∀ X, Calls Tryd.prog 23 #[.int .i64 y, .int .i64 m, .int .i64 K] X fun x w' => x = .returned (.tuple #[.int .i64 z, .int .i64 n, .bool true]) ∧ X = w') := fun X => by
          have := addR_any y m K X ⟨r0, r1⟩ ⟨s0, s1⟩ (by omega) (by omega)
          unfold addV at this
          rw [a1, a2, yb, if_pos rfl, if_pos rfl] at this
          exact this
        have k0 : -300000000000000000 ≤ K := by omega
        have k1 : K ≤ 300000000000000000 := by omega
        rw [hK] at v1
        rw [v5] at v2
        rw [v1, v2, v3, v4, ha, hb]
        clear v1 v2 v3 v4 v5 hK a1 a2 ha hb ya yb ma mb hy hz hm hn p0 p1 q0 q1
        go_wp2_with (first
          | (go_at_call 23; refine (RD.out _).mono ?_; rintro e w' ⟨rfl, rfl⟩)
          | (go_at_call 18; refine (num_t _ _ _ _ (by rfl) (by rfl)).mono ?_; rintro e w' ⟨rfl, rfl⟩)
          | (go_at_call 13; refine (lives_t w _ (ho.step (by go_grown))).mono ?_; rintro e w' ⟨rfl, hk⟩))
        go_ret
        exact ⟨rfl, by assumption⟩
      · have v1 : bV y m z n = 0 := if_neg fun hh => hb hh.2
        have v2 : bV z n y m = 0 := if_neg fun hh => hb hh.1
        have v3 : bE y m z n = mE z n := by unfold bE; rw [if_pos ha]
        have v4 : bE z n y m = mE z n := by unfold bE; rw [if_neg hb]
        rw [v1, v2, v3, v4, ha]
        have g1 : (mE z n != 0) = true := by rw [bne_iff_ne]; exact hb
        have g2 : (mE z n == 0) = false := by rw [beq_eq_false_iff_ne]; exact hb
        clear v1 v2 v3 v4 ha hb hy hz hm hn
        generalize mE z n = b at *
        go_wp2_with (first
          | (go_at_call 13; refine (lives_t w _ (ho.step (by go_grown))).mono ?_; rintro e w' ⟨rfl, hk⟩))
        go_ret
        exact ⟨rfl, by assumption⟩
    · have v1 : bV y m z n = 0 := if_neg fun hh => ha hh.1
      have v2 : bV z n y m = 0 := if_neg fun hh => ha hh.2
      have v3 : bE y m z n = mE y m := by unfold bE; rw [if_neg ha]
      have g1 : (mE y m != 0) = true := by rw [bne_iff_ne]; exact ha
      have g2 : (mE y m == 0) = false := by rw [beq_eq_false_iff_ne]; exact ha
      by_cases hb : mE z n = 0
      · have v4 : bE z n y m = mE y m := by unfold bE; rw [if_pos hb]
        rw [v1, v2, v3, v4, hb]
        clear v1 v2 v3 v4 ha hb hy hz hm hn
        generalize mE y m = a at *
        go_wp2_with (first
          | (go_at_call 13; refine (lives_t w _ (ho.step (by go_grown))).mono ?_; rintro e w' ⟨rfl, hk⟩))
        go_ret
        exact ⟨rfl, by assumption⟩
      · have v4 : bE z n y m = mE z n := by unfold bE; rw [if_neg hb]
        rw [v1, v2, v3, v4]
        have g3 : (mE z n != 0) = true := by rw [bne_iff_ne]; exact hb
        have g4 : (mE z n == 0) = false := by rw [beq_eq_false_iff_ne]; exact hb
        clear v1 v2 v3 v4 ha hb hy hz hm hn
        generalize mE y m = a at *
        generalize mE z n = b at *
        go_wp2_with (first
          | (go_at_call 13; refine (lives_t w _ (ho.step (by go_grown))).mono ?_; rintro e w' ⟨rfl, hk⟩))
        go_ret
        exact ⟨rfl, by assumption⟩
end Go.Proofs.YtlcilodpelmccaaDoor.mon
