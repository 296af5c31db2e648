/- The law on small runs: RunsPlain. -/
import Derived.Test.YtmbaohjekeiphaaDoorRunPq
import Derived.Test.YtmbaohjekeiphaaDoorRunK
namespace Go.Proofs.YtmbaohjekeiphaaDoor.run9
open Go.RowKit

theorem tmod40 (x : Int) : -39 ≤ x.tmod 40 ∧ x.tmod 40 ≤ 39 := by
  by_cases h : 0 ≤ x
  · rw [Int.tmod_eq_emod_of_nonneg h]; omega
  · have h1 : (-x).tmod 40 = (-x) % 40 := Int.tmod_eq_emod_of_nonneg (by omega)
    rw [Int.neg_tmod] at h1
    omega
theorem rOf_in {m n lo : Int} (h1 : -39 ≤ lo) (h2 : lo ≤ 39) (h3 : 0 ≤ n) (h4 : n ≤ 15) : (rOf m n lo).In := by
  unfold rOf Ru.In I8 I64
  dsimp only
  refine ⟨?_, ?_, ?_, ?_⟩ <;> split <;> omega
theorem made_any (x0 x1 lo : Int) (h0 : 0 ≤ x0 ∧ x0 ≤ 255) (h1 : 0 ≤ x1 ∧ x1 ≤ 255) (h2 : -39 ≤ lo ∧ lo ≤ 39) {w X : World} (h : Ok w X) :
    Calls Tryd.prog 5 #[.agg #[.int .u8 x0, .int .u8 x1, .int .i16 lo]] X fun x w' => x = .returned (V4 (rOf (x0 % 8) (x1 % 16) lo)) ∧ (Ok w w' ∧ Below X.heap.size X w') :=
  (of_any9 x0 x1 lo (x0 % 8) (x1 % 16) (lo + x1 % 16) X rfl (Int.tmod_eq_emod_of_nonneg h0.1) (Int.tmod_eq_emod_of_nonneg h1.1) rfl (IntWalk.i64_in _ (by omega)) (IntWalk.i64_in _ (by omega)) (IntWalk.wrap64_in _ ⟨by omega, by omega⟩) (IntWalk.u8_in _ (by omega))).mono fun _ _ ⟨q1, q2⟩ => ⟨q1, h.step q2, q2⟩
theorem plain_law (x0 x1 x2 y0 y1 y2 : Int) (w W : World) (KL : Hid (∀ B X, Ok B X → Calls Tryd.prog 11 #[] X fun x w' => x = .returned (.bool true) ∧ Ok B w'))
    (hx0 : 0 ≤ x0 ∧ x0 ≤ 255) (hx1 : 0 ≤ x1 ∧ x1 ≤ 255) (hy0 : 0 ≤ y0 ∧ y0 ≤ 255) (hy1 : 0 ≤ y1 ∧ y1 ≤ 255) (ho : Ok w W) :
    Calls Tryd.prog 3 #[.agg #[.int .u8 x0, .int .u8 x1, .int .i16 x2], .agg #[.int .u8 y0, .int .u8 y1, .int .i16 y2]] W fun e w' => e = .returned (.bool true) ∧ Ok w w' := by
  have hp := tmod40 x2
  have hq := tmod40 y2
  have MX := fun B X (hX : Ok B X) => made_any x0 x1 (x2.tmod 40) hx0 hx1 hp hX
  have MY := fun B X (hX : Ok B X) => made_any y0 y1 (y2.tmod 40) hy0 hy1 hq hX
  have SA : Small (rOf (x0 % 8) (x1 % 16) (x2.tmod 40)) := rOf_small hp.1 hp.2 (by omega) (by omega)
  have SB : Small (rOf (y0 % 8) (y1 % 16) (y2.tmod 40)) := rOf_small hq.1 hq.2 (by omega) (by omega)
  have IA : (rOf (x0 % 8) (x1 % 16) (x2.tmod 40)).In := rOf_in hp.1 hp.2 (by omega) (by omega)
  have IB : (rOf (y0 % 8) (y1 % 16) (y2.tmod 40)).In := rOf_in hq.1 hq.2 (by omega) (by omega)
  generalize rOf (x0 % 8) (x1 % 16) (x2.tmod 40) = A at *
  generalize rOf (y0 % 8) (y1 % 16) (y2.tmod 40) = B at *
  have hU := okU_true SA.right SB.right
  have ht : toB A B = ruTo A B := by unfold toB; rw [hU, Bool.true_and]
  have hm : coB A B = ruOv A B := by unfold coB; rw [hU, Bool.true_and]
  have hz : wiB A B = ruW A B := by unfold wiB; rw [hU, Bool.true_and]
  have hA : ∀ n, haB A n = ruH A n := fun n => by unfold haB; rw [SA.right]; rfl
  have hB : ∀ n, haB B n = ruH B n := fun n => by unfold haB; rw [SB.right]; rfl
  exact plain_made x0 x1 x2 (x2.tmod 40) y0 y1 y2 (y2.tmod 40) A.i A.d A.j A.e B.i B.d B.j B.e _ _ _ _ _ _ _ _ (ruH A) (ruH B) (ruTo A B) (ruOv A B) (ruW A B) w W KL MX MY
    (fun n h1 h2 _ _ hX => k_has hX A n IA ⟨by omega, by omega⟩ (hA n)) (fun n h1 h2 _ _ hX => k_has hX B n IB ⟨by omega, by omega⟩ (hB n)) (fun _ _ hX => k_join hX A B IA IB rfl ht) (fun _ _ hX => k_common hX A B IA IB rfl hm)
    (fun _ _ hX => k_touch hX A B IA IB ht) (fun _ _ hX => k_within hX A B IA IB hz) ⟨near_all SA SB, both_all SA SB, (out_all SA SB).symm⟩ rfl rfl ho
end Go.Proofs.YtmbaohjekeiphaaDoor.run9
