/- A civil day's block in memory. -/
import Derived.Test.YtiemlpmhhbmfiaaGreatDoorCivRef
namespace Go.Proofs.YtiemlpmhhbmfiaaGreatDoor
open Go.RowKit

/-- A civil day's block. -/
def BkC (w : World) (g : Nat) (a b c : Int) : Prop := w.heap[g]? = some (.cells #[.int .i64 a, .int .i64 b, .int .i64 c] 23 (0, 0))
theorem BkC.three {w : World} {g : Nat} {a b c : Int} (h : BkC w g a b c) : Three g a b c w := ⟨cell_of_row w g 0 _ _ _ h, cell_of_row w g 1 _ _ _ h, cell_of_row w g 2 _ _ _ h⟩
theorem BkC.frozen {w : World} {g : Nat} {a b c : Int} (h : BkC w g a b c) (i : Nat) : w.frozen? ⟨g, i, none⟩ = false := frozen_of_row w g i _ _ h
theorem BkC.new (w : World) (a b c : Int) : BkC (w.alloc (.cells #[.int .i64 a, .int .i64 b, .int .i64 c] 23)) w.heap.size a b c := heap_alloc_new w _
theorem BkC.below {w w' : World} {g B : Nat} {a b c : Int} (h : BkC w g a b c) (hg : g < B) (hb : Below B w w') : BkC w' g a b c := (hb.block g hg).trans h
theorem BkC.store {w : World} {g : Nat} {a b c : Int} (h : BkC w g a b c) (x y z : Int) :
    BkC (((w.setCell ⟨g, 0, none⟩ (.int .i64 x)).setCell ⟨g, 1, none⟩ (.int .i64 y)).setCell ⟨g, 2, none⟩ (.int .i64 z)) g x y z :=
  heap_setCell_same _ g 2 _ _ _ (heap_setCell_same _ g 1 _ _ _ (heap_setCell_same w g 0 _ _ _ h))
theorem res_civ2 {fn : Func} {t r : Tmp} {tmps : Array Value} {W : World} {g : Nat} {a b c : Int} {z : Value} (h : fn.results = #[.cell t 23, .tmp r]) (ha : tmps[t]?.getD undef = .pointer (some ⟨g, 0, none⟩)) (hz : tmps[r]?.getD undef = z) (hb : Three g a b c W) :
    (results fn tmps).run Tryz.prog W = .ok (.tuple #[.agg #[.int .i64 a, .int .i64 b, .int .i64 c], z]) W := by
  obtain ⟨q0, q1, q2⟩ := hb
  simp [results, h, go_sem, ha, hz, q0, q1, q2]
/-- A civil day stored, field by field. -/
def setC3 (w : World) (g : Nat) (x y z : Int) : World := ((w.setCell ⟨g, 0, none⟩ (.int .i64 x)).setCell ⟨g, 1, none⟩ (.int .i64 y)).setCell ⟨g, 2, none⟩ (.int .i64 z)
theorem bkc_far {w : World} {g k : Nat} {a b c : Int} (h : BkC w k a b c) (hne : k ≠ g) (x y z : Int) : BkC (setC3 w g x y z) k a b c :=
  (heap_setCell_other _ ⟨g, 2, none⟩ k _ hne).trans ((heap_setCell_other _ ⟨g, 1, none⟩ k _ hne).trans ((heap_setCell_other _ ⟨g, 0, none⟩ k _ hne).trans h))
theorem setC3_size (w : World) (g : Nat) (x y z : Int) : (setC3 w g x y z).heap.size = w.heap.size := by simp [setC3]
theorem below_set3 {B : Nat} {w X : World} (h : Below B w X) {g : Nat} (hg : B ≤ g) (x y z : Int) : Below B w (setC3 X g x y z) :=
  ((h.setCell (p := ⟨g, 0, none⟩) hg _).setCell (p := ⟨g, 1, none⟩) hg _).setCell (p := ⟨g, 2, none⟩) hg _
end Go.Proofs.YtiemlpmhhbmfiaaGreatDoor
