/- Contracts for regions of laws that draw their order; lists of four in blocks. -/
import Derived.Test.YtmbaohjekeiphaaGreatDoorRunK
import Derived.Test.YtmbaohjekeiphaaGreatDoorRunQs
namespace Go.Proofs.YtmbaohjekeiphaaGreatDoor.run9
open Go.RowKit

theorem callO {f : FuncId} {args : Array Value} {v : Value} {w X : World} (hc : ∀ B X, Ok B X → Calls Tryz.prog f args X fun x w' => x = .returned v ∧ Ok B w') (hX : Ok w X) :
    Calls Tryz.prog f args X fun x w' => x = .returned v ∧ Ok w w' ∧ Below X.heap.size X w' := (hc X X (Ok.refl hX.1)).mono fun _ _ ⟨h1, h2⟩ => ⟨h1, hX.step h2.2, h2.2⟩
theorem _root_.Go.Proofs.YtmbaohjekeiphaaGreatDoor.Ok.set4 {w X : World} (h : Ok w X) {g : Nat} (hg : w.heap.size ≤ g) (i d j e : Int) : Ok w (set4 X g i d j e) := h.low' (set4_below h.2 hg i d j e)
def BkS4 (w : World) (g : Nat) (a b c d : ByteArray) : Prop := w.heap[g]? = some (.cells #[.string a, .string b, .string c, .string d] 9 (0, 0))
def QuadS (g : Nat) (a b c d : ByteArray) (X : World) : Prop := X.cell? ⟨g, 0, none⟩ = some (.string a) ∧ X.cell? ⟨g, 1, none⟩ = some (.string b) ∧ X.cell? ⟨g, 2, none⟩ = some (.string c) ∧ X.cell? ⟨g, 3, none⟩ = some (.string d)
theorem BkS4.quad {w : World} {g : Nat} {a b c d : ByteArray} (h : BkS4 w g a b c d) : QuadS g a b c d w := ⟨cell_of_row w g 0 _ _ _ h, cell_of_row w g 1 _ _ _ h, cell_of_row w g 2 _ _ _ h, cell_of_row w g 3 _ _ _ h⟩
theorem BkS4.below {w w' : World} {g B : Nat} {a b c d : ByteArray} (h : BkS4 w g a b c d) (hg : g < B) (hb : Below B w w') : BkS4 w' g a b c d := (hb.block g hg).trans h
theorem st4_new (w : World) (a b c d : ByteArray) (W : World) (hW : W = w.alloc (.cells #[.string a, .string b, .string c, .string d] 9)) : BkS4 W w.heap.size a b c d ∧ W.heap.size = w.heap.size + 1 ∧ Below w.heap.size w W := by
  subst hW
  exact ⟨heap_alloc_new w _, by simp, by go_grown⟩
def BkI4 (w : World) (g : Nat) (a b c d : Int) : Prop := w.heap[g]? = some (.cells #[.int .i64 a, .int .i64 b, .int .i64 c, .int .i64 d] 3 (0, 0))
def QuadI (g : Nat) (a b c d : Int) (X : World) : Prop := X.cell? ⟨g, 0, none⟩ = some (.int .i64 a) ∧ X.cell? ⟨g, 1, none⟩ = some (.int .i64 b) ∧ X.cell? ⟨g, 2, none⟩ = some (.int .i64 c) ∧ X.cell? ⟨g, 3, none⟩ = some (.int .i64 d)
theorem BkI4.quad {w : World} {g : Nat} {a b c d : Int} (h : BkI4 w g a b c d) : QuadI g a b c d w := ⟨cell_of_row w g 0 _ _ _ h, cell_of_row w g 1 _ _ _ h, cell_of_row w g 2 _ _ _ h, cell_of_row w g 3 _ _ _ h⟩
theorem BkI4.below {w w' : World} {g B : Nat} {a b c d : Int} (h : BkI4 w g a b c d) (hg : g < B) (hb : Below B w w') : BkI4 w' g a b c d := (hb.block g hg).trans h
theorem in4_new (w : World) (a b c d : Int) (W : World) (hW : W = w.alloc (.cells #[.int .i64 a, .int .i64 b, .int .i64 c, .int .i64 d] 3)) : BkI4 W w.heap.size a b c d ∧ W.heap.size = w.heap.size + 1 ∧ Below w.heap.size w W := by
  subst hW
  exact ⟨heap_alloc_new w _, by simp, by go_grown⟩
end Go.Proofs.YtmbaohjekeiphaaGreatDoor.run9
