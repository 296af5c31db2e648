/- The law on one run: RunsOne. -/
import Derived.Test.YtmbaohjekeiphaaGreatDoorRunL
namespace Go.Proofs.YtmbaohjekeiphaaGreatDoor.run9
open Go.RowKit

/-- Two numbers in a block. -/
def ZB (X : World) (g : Nat) (x y : Int) : Prop := X.heap[g]? = some (.cells #[.int .i64 x, .int .i64 y] 39 (0, 0)) ∧ g < X.heap.size
theorem ZB.below {X Y : World} {g : Nat} {x y : Int} (h : ZB X g x y) (hb : Below X.heap.size X Y) : ZB Y g x y := ⟨(hb.block g h.2).trans h.1, Nat.lt_of_lt_of_le h.2 hb.size⟩
theorem ZB.two {X : World} {g : Nat} {x y : Int} (h : ZB X g x y) : X.cell? ⟨g, 0, none⟩ = some (.int .i64 x) ∧ X.cell? ⟨g, 1, none⟩ = some (.int .i64 y) := ⟨cell_of_row X g 0 _ _ _ h.1, cell_of_row X g 1 _ _ _ h.1⟩
theorem ZB.new (X : World) (x y : Int) : ZB (X.alloc (.cells #[.int .i64 x, .int .i64 y] 39)) X.heap.size x y := ⟨heap_alloc_new X _, by simp⟩

theorem shift_in {r : Ru} {k : Int} (hr : r.In) (h : ruSE r k = 0) : (ruS r k).In := by
  unfold ruS
  rw [if_pos h]
  unfold ruSE at h
  split at h
  · rename_i hh
    refine ⟨hr.1, ?_, hr.2.2.1, ?_⟩
    · show I64 (mvV r.i r.d k)
      unfold mvV
      split
      · exact hh.1 (by assumption)
      · exact hr.2.1
    · show I64 (mvV r.j r.e k)
      unfold mvV
      split
      · exact hh.2 (by assumption)
      · exact hr.2.2.2
  · cases h
/-- Moved back. -/
theorem shift_back {r : Ru} {k : Int} (hr : r.In) (hE : ruE r = 0) (h : ruSE r k = 0) : shE (ruS r k) (-k) = 0 ∧ shR (ruS r k) (-k) = r := by
  have hS : ruS r k = ⟨r.i, mvV r.i r.d k, r.j, mvV r.j r.e k⟩ := if_pos h
  have hR : Right (ruS r k) := by
    rw [hS]
    cases right_of hE with
    | days d e h => exact .days _ _ (by show d + k ≤ e + k; omega)
    | up d => exact .up _
    | down e => exact .down _
    | all => exact .all
  have e0 := hR.of
  have hSE : ruSE (ruS r k) (-k) = 0 := by
    rw [hS]
    refine if_pos ⟨fun hi => ?_, fun hj => ?_⟩
    · have hi : r.i = 0 := hi
      show I64 (mvV r.i r.d k + -k)
      unfold mvV; rw [if_pos hi]
      have := hr.2.1
      rw [show r.d + k + -k = r.d by omega]; exact this
    · have hj : r.j = 0 := hj
      show I64 (mvV r.j r.e k + -k)
      unfold mvV; rw [if_pos hj]
      have := hr.2.2.2
      rw [show r.e + k + -k = r.e by omega]; exact this
  refine ⟨by unfold shE; rw [if_pos e0]; exact hSE, ?_⟩
  unfold shR
  rw [if_pos e0]
  unfold ruS at hSE ⊢
  rw [if_pos h] at hSE ⊢
  rw [if_pos hSE]
  apply Ru.eq
  · rfl
  · show mvV r.i (mvV r.i r.d k) (-k) = r.d
    unfold mvV; split <;> omega
  · rfl
  · show mvV r.j (mvV r.j r.e k) (-k) = r.e
    unfold mvV; split <;> omega
end Go.Proofs.YtmbaohjekeiphaaGreatDoor.run9
