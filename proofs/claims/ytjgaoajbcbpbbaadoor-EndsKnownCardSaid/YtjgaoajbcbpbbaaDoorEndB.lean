/- Ends in blocks of memory; the equality of ends; the map of the infinities' texts, step by step. -/
import Derived.Test.YtjgaoajbcbpbbaaDoorQ0
import Derived.Deep.RegionHeld3
import Derived.Deep.QuietTactic
import Derived.BigQuiet
import Derived.Laws.StructEq
import Derived.Laws.IdiomRangeMap
namespace Go.Proofs.YtjgaoajbcbpbbaaDoor
open Go.RowKit

/-- An end as a value. -/
abbrev E2 (i d : Int) : Value := .agg #[.int .i8 i, .int .i64 d]
/-- An end in a block of its own. -/
def BkE (w : World) (g : Nat) (i d : Int) : Prop := w.heap[g]? = some (.cells #[.int .i8 i, .int .i64 d] 24 (0, 0))
def Duo (g : Nat) (i d : Int) (X : World) : Prop := X.cell? ⟨g, 0, none⟩ = some (.int .i8 i) ∧ X.cell? ⟨g, 1, none⟩ = some (.int .i64 d)
theorem BkE.duo {w : World} {g : Nat} {i d : Int} (h : BkE w g i d) : Duo g i d w := ⟨cell_of_row w g 0 _ _ _ h, cell_of_row w g 1 _ _ _ h⟩
theorem BkE.frozen {w : World} {g : Nat} {i d : Int} (h : BkE w g i d) (n : Nat) : w.frozen? ⟨g, n, none⟩ = false := frozen_of_row w g n _ _ h
theorem BkE.below {w w' : World} {g B : Nat} {i d : Int} (h : BkE w g i d) (hg : g < B) (hb : Below B w w') : BkE w' g i d := (hb.block g hg).trans h
theorem BkE.store {w : World} {g : Nat} {i d : Int} (h : BkE w g i d) (x y : Int) : BkE ((w.setCell ⟨g, 0, none⟩ (.int .i8 x)).setCell ⟨g, 1, none⟩ (.int .i64 y)) g x y :=
  heap_setCell_same _ g 1 _ _ _ (heap_setCell_same w g 0 _ _ _ h)
theorem end_new (w : World) (i d : Int) (W : World) (hW : W = w.alloc (.cells #[.int .i8 i, .int .i64 d] 24)) : BkE W w.heap.size i d ∧ w.heap.size < W.heap.size ∧ Below w.heap.size w W := by
  subst hW
  exact ⟨heap_alloc_new w _, by simp, by go_grown⟩
theorem set2_below {w X : World} {B : Nat} (h : Below B w X) {g : Nat} (hg : B ≤ g) (x y : Int) : Below B w ((X.setCell ⟨g, 0, none⟩ (.int .i8 x)).setCell ⟨g, 1, none⟩ (.int .i64 y)) :=
  (h.setCell (p := ⟨g, 0, none⟩) hg _).setCell (p := ⟨g, 1, none⟩) hg _
theorem res_end1 {fn : Func} {t : Tmp} {tmps : Array Value} {W : World} {g : Nat} {i d : Int} (h : fn.results = #[.cell t 24]) (ha : tmps[t]?.getD undef = .pointer (some ⟨g, 0, none⟩)) (hb : Duo g i d W) :
    (results fn tmps).run Tryd.prog W = .ok (E2 i d) W := by
  obtain ⟨q0, q1⟩ := hb
  simp [results, h, go_sem, ha, q0, q1, E2]
theorem res_end2 {fn : Func} {t r : Tmp} {tmps : Array Value} {W : World} {g : Nat} {i d : Int} {z : Value} (h : fn.results = #[.cell t 24, .tmp r]) (ha : tmps[t]?.getD undef = .pointer (some ⟨g, 0, none⟩)) (hz : tmps[r]?.getD undef = z) (hb : Duo g i d W) :
    (results fn tmps).run Tryd.prog W = .ok (.tuple #[E2 i d, z]) W := by
  obtain ⟨q0, q1⟩ := hb
  simp [results, h, go_sem, ha, hz, q0, q1, E2]

theorem two_end (w : World) (i d j e : Int) (W : World) (hW : W = (w.alloc (.cells #[.int .i8 i, .int .i64 d] 24)).alloc (.cells #[.int .i8 j, .int .i64 e] 24)) : BkE W w.heap.size i d ∧ BkE W (w.heap.size + 1) j e ∧ W.heap.size = w.heap.size + 2 ∧ Below w.heap.size w W := by
  subst hW
  obtain ⟨h1, h2, h3⟩ := end_new w i d _ rfl
  obtain ⟨k1, k2, k3⟩ := end_new (w.alloc (.cells #[.int .i8 i, .int .i64 d] 24)) j e _ rfl
  refine ⟨h1.below h2 k3, ?_, by simp, h3.trans (k3.mono (Nat.le_of_lt h2))⟩
  have : (w.alloc (.cells #[.int .i8 i, .int .i64 d] 24)).heap.size = w.heap.size + 1 := by simp
  rw [this] at k1
  exact k1
namespace end8
noncomputable def fE (i : Nat) : Field := (Tryd.prog.fieldsOf 24).toList.getD i default
theorem fieldsE : (Tryd.prog.fieldsOf 24).toList = [fE 0, fE 1] := by kernel_rfl
theorem fE0 : (fE 0).name = "Inf" ∧ (fE 0).type = 22 ∧ (fE 0).offset = 0 := ⟨by kernel_rfl, by kernel_rfl, by kernel_rfl⟩
theorem fE1 : (fE 1).name = "Day" ∧ (fE 1).type = 2 ∧ (fE 1).offset = 1 := ⟨by kernel_rfl, by kernel_rfl, by kernel_rfl⟩
theorem partN (t : TypeId) (ht : ∀ w, (isAgg t).run Tryd.prog w = .ok false w) (xs : Array Value) (o : Nat) (v : Value) (h : xs[o]? = some v) (w : World) : (part t xs o).run Tryd.prog w = .ok v w := by
  simp [part, Sem.run_bind, ht, h]
theorem agg64 (w : World) : (isAgg 2).run Tryd.prog w = .ok false w := by kernel_rfl
theorem agg8 (w : World) : (isAgg 22).run Tryd.prog w = .ok false w := by kernel_rfl
theorem eqI_any (k : Nat) (a b x y : Int) (w : World) : (Op.equalIn (k + 2) 24 (E2 a b) (E2 x y)).run Tryd.prog w = .ok (a == x && b == y) w := by
  rw [run_equalIn_struct w (k + 1) 24 _ _ (by kernel_rfl) (by kernel_rfl), fieldsE]
  have p0 : ∀ (a b : Value) (w : World), (part 22 #[a, b] 0).run Tryd.prog w = .ok a w := fun a b w => partN _ agg8 _ _ _ rfl w
  have p1 : ∀ (a b : Value) (w : World), (part 2 #[a, b] 1).run Tryd.prog w = .ok b w := fun a b w => partN _ agg64 _ _ _ rfl w
  by_cases h1 : a = x <;> by_cases h2 : b = y
  all_goals
    simp [h1, h2, Op.eqFields, fE0, fE1, Sem.run_bind, p0, p1, Result.andThen_ok, run_equalIn_int w k _ .i8 .i8 _ _ Tryd.underlying22, run_equalIn_int w k _ .i64 .i64 _ _ Tryd.underlying2]
/-- Two ends, field by field. -/
def eqE (i d j e : Int) : Bool := i == j && d == e
theorem eqE_same (i d : Int) : eqE i d i d = true := by simp [eqE]
theorem eqE_iff {i d j e : Int} : eqE i d j e = true ↔ i = j ∧ d = e := by simp [eqE]
theorem eq_any (i d j e : Int) (w : World) : (binOp .eql 24 (E2 i d) (E2 j e)).run Tryd.prog w = .ok (.bool (eqE i d j e)) w := by
  rw [run_eql_struct, eqI_any 9998]; rfl
theorem ne_any (i d j e : Int) (w : World) : (binOp .neq 24 (E2 i d) (E2 j e)).run Tryd.prog w = .ok (.bool (!eqE i d j e)) w := by
  rw [run_neq_struct, eqI_any 9998]; rfl
end end8
end Go.Proofs.YtjgaoajbcbpbbaaDoor
