/- A run's block in memory. -/
import Derived.Test.YtcabcmlnmpfhkaaDoorSeaRef
import Derived.Deep.RegionHeld3
import Derived.Deep.Cut
import Derived.Deep.CutRange
import Derived.Deep.DeepCutAuto
import Derived.Deep.CutBlock
import Derived.Laws.Rows
namespace Go.Proofs.YtcabcmlnmpfhkaaDoor
open Go.RowKit

/-- A run of days that both are told, as the language holds it. -/
def R4 (a b c d : Int) : Value := .agg #[.int .i8 a, .int .i64 b, .int .i8 c, .int .i64 d]
def BkR (w : World) (g : Nat) (a b c d : Int) : Prop := w.heap[g]? = some (.cells #[.int .i8 a, .int .i64 b, .int .i8 c, .int .i64 d] 32 (0, 0))
def Four (g : Nat) (a b c d : Int) (X : World) : Prop := X.cell? ⟨g, 0, none⟩ = some (.int .i8 a) ∧ X.cell? ⟨g, 1, none⟩ = some (.int .i64 b) ∧ X.cell? ⟨g, 2, none⟩ = some (.int .i8 c) ∧ X.cell? ⟨g, 3, none⟩ = some (.int .i64 d)
theorem BkR.four {w : World} {g : Nat} {a b c d : Int} (h : BkR w g a b c d) : Four g a b c d w := ⟨cell_of_row w g 0 _ _ _ h, cell_of_row w g 1 _ _ _ h, cell_of_row w g 2 _ _ _ h, cell_of_row w g 3 _ _ _ h⟩
theorem BkR.frozen {w : World} {g : Nat} {a b c d : Int} (h : BkR w g a b c d) (i : Nat) : w.frozen? ⟨g, i, none⟩ = false := frozen_of_row w g i _ _ h
theorem BkR.new (w : World) (a b c d : Int) : BkR (w.alloc (.cells #[.int .i8 a, .int .i64 b, .int .i8 c, .int .i64 d] 32)) w.heap.size a b c d := heap_alloc_new w _
theorem BkR.below {w w' : World} {g B : Nat} {a b c d : Int} (h : BkR w g a b c d) (hg : g < B) (hb : Below B w w') : BkR w' g a b c d := (hb.block g hg).trans h
theorem BkR.store {w : World} {g : Nat} {a b c d : Int} (h : BkR w g a b c d) (x y z u : Int) :
    BkR ((((w.setCell ⟨g, 0, none⟩ (.int .i8 x)).setCell ⟨g, 1, none⟩ (.int .i64 y)).setCell ⟨g, 2, none⟩ (.int .i8 z)).setCell ⟨g, 3, none⟩ (.int .i64 u)) g x y z u :=
  heap_setCell_same _ g 3 _ _ _ (heap_setCell_same _ g 2 _ _ _ (heap_setCell_same _ g 1 _ _ _ (heap_setCell_same w g 0 _ _ _ h)))
theorem set4_below {w X : World} (h : Below w.heap.size w X) (x y z u : Int) :
    Below w.heap.size w ((((X.setCell ⟨w.heap.size, 0, none⟩ (.int .i8 x)).setCell ⟨w.heap.size, 1, none⟩ (.int .i64 y)).setCell ⟨w.heap.size, 2, none⟩ (.int .i8 z)).setCell ⟨w.heap.size, 3, none⟩ (.int .i64 u)) :=
  (((h.setCell (p := ⟨w.heap.size, 0, none⟩) (Nat.le_refl _) _).setCell (p := ⟨w.heap.size, 1, none⟩) (Nat.le_refl _) _).setCell (p := ⟨w.heap.size, 2, none⟩) (Nat.le_refl _) _).setCell (p := ⟨w.heap.size, 3, none⟩) (Nat.le_refl _) _
theorem res_run2 {fn : Func} {t r : Tmp} {tmps : Array Value} {W : World} {g : Nat} {a b c d : Int} {z : Value} (h : fn.results = #[.cell t 32, .tmp r]) (ha : tmps[t]?.getD undef = .pointer (some ⟨g, 0, none⟩)) (hz : tmps[r]?.getD undef = z) (hb : Four g a b c d W) :
    (results fn tmps).run Tryd.prog W = .ok (.tuple #[R4 a b c d, z]) W := by
  obtain ⟨q0, q1, q2, q3⟩ := hb
  simp [results, h, go_sem, ha, hz, q0, q1, q2, q3, R4]
/-- What Run returns: its days, or 0. -/
def rV (y c v : Int) : Int := if sE y c = 0 then v else 0
theorem run_new {w X : World} (h : Below (w.alloc (.cells #[.int .i8 0, .int .i64 0, .int .i8 0, .int .i64 0] 32)).heap.size (w.alloc (.cells #[.int .i8 0, .int .i64 0, .int .i8 0, .int .i64 0] 32)) X) :
    Below w.heap.size w X ∧ w.heap.size < X.heap.size ∧ BkR X w.heap.size 0 0 0 0 := by
  have h1 : w.heap.size < (w.alloc (.cells #[.int .i8 0, .int .i64 0, .int .i8 0, .int .i64 0] 32)).heap.size := by simp
  exact ⟨((Below.refl _ _).alloc (Nat.le_refl _) _).trans (h.mono (Nat.le_of_lt h1)), Nat.lt_of_lt_of_le h1 h.size, (BkR.new w 0 0 0 0).below h1 h⟩
end Go.Proofs.YtcabcmlnmpfhkaaDoor
