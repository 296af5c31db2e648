/- Civil days among the arguments. -/
import Derived.Test.YtiemlpmhhbmfiaaGreatDoorCivLaws
import Derived.Test.YtiemlpmhhbmfiaaGreatDoorFrameG
namespace Go.Proofs.YtiemlpmhhbmfiaaGreatDoor.civ
open Go.ChangeShapes Go.WideShapes Go.ChangeAt Go.RowKit

theorem cells3 : Tryz.prog.cellsOf 23 = 3 := by kernel_rfl
theorem cellsI : Tryz.prog.cellsOf 2 = 1 := by kernel_rfl
theorem cellsN : Tryz.prog.cellsOf 3 = 1 := by kernel_rfl

set_option maxRecDepth 100000 in
theorem one_int {H : Type} {enc : TypeId × Value → H} {W : World} {sp : Nat → Bool} {held : Bool} {t : TypeId} {n : Nat} {v : Value} {y : DataW H × List MemPlace} (ht : Tryz.prog.underlying t = some (.int .i64))
    (h : DataW.trod enc Tryz.prog W 0 sp held n t [v] = some y) : ∃ a, v = .int .i64 a ∧ I64 a := by
  obtain ⟨a, hc, _, hw⟩ := DataW.trod_int ht h
  injection hc with hc _
  exact ⟨a, hc, (bounds_i64 hw).1, (bounds_i64 hw).2⟩
def In3 (u : Int × Int × Int) : Prop := I64 u.1 ∧ I64 u.2.1 ∧ I64 u.2.2
set_option maxRecDepth 100000 in
theorem open_3 {H : Type} {enc : TypeId × Value → H} {W : World} {sp : Nat → Bool} {held : Bool} {r : Reach} {b0 : Nat} {v : Value} {d : DataW H} {ps : List MemPlace}
    (hval : Value.okWide Tryz.prog W r b0 23 v) (h : DataW.Trod enc Tryz.prog W 0 sp held 23 v d ps) : ∃ u : Int × Int × Int, v = .agg #[.int .i64 u.1, .int .i64 u.2.1, .int .i64 u.2.2] ∧ In3 u := by
  obtain ⟨cs, rfl, hsz⟩ := okWide_struct Tryz.underlying23 hval
  rw [cells3] at hsz
  obtain ⟨a, b, c, rfl⟩ : ∃ a b c, cs = #[a, b, c] := by
    match cs, hsz with
    | ⟨[a, b, c]⟩, _ => exact ⟨a, b, c, rfl⟩
  obtain ⟨n, h⟩ := h
  obtain ⟨xs, m, _, _, _, hl, hf⟩ := DataW.trod_struct Tryz.underlying23 h
  match xs, hl with
  | [y0, y1, y2], _ =>
    have e0 : (((Value.agg #[a, b, c]).cells.toList.drop 0).take (Tryz.prog.cellsOf 2)) = [a] := by rw [cellsI]; rfl
    have h0 : DataW.trod enc Tryz.prog W 0 sp held m 2 [a] = some y0 := by rw [← e0]; exact hf 0 _ rfl
    have e1 : (((Value.agg #[a, b, c]).cells.toList.drop 1).take (Tryz.prog.cellsOf 3)) = [b] := by rw [cellsN]; rfl
    have h1 : DataW.trod enc Tryz.prog W 0 sp held m 3 [b] = some y1 := by rw [← e1]; exact hf 1 _ rfl
    have e2 : (((Value.agg #[a, b, c]).cells.toList.drop 2).take (Tryz.prog.cellsOf 3)) = [c] := by rw [cellsN]; rfl
    have h2 : DataW.trod enc Tryz.prog W 0 sp held m 3 [c] = some y2 := by rw [← e2]; exact hf 2 _ rfl
    obtain ⟨x0, rfl, g0⟩ := one_int (v := a) Tryz.underlying2 h0
    obtain ⟨x1, rfl, g1⟩ := one_int (v := b) Tryz.underlying3 h1
    obtain ⟨x2, rfl, g2⟩ := one_int (v := c) Tryz.underlying3 h2
    exact ⟨(x0, x1, x2), rfl, g0, g1, g2⟩

theorem day_law' (u : Int × Int × Int) (w W : World) (hu : In3 u) (h : Ok w W) :
    Calls Tryz.prog 3 #[.agg #[.int .i64 u.1, .int .i64 u.2.1, .int .i64 u.2.2]] W fun e w' => e = .returned (.bool true) ∧ Ok w w' := day_law u.1 u.2.1 u.2.2 w W hu.1 hu.2.1 hu.2.2 h
set_option maxRecDepth 100000 in
theorem order_law' (u v t : Int × Int × Int) (w W : World) (hu : In3 u) (hv : In3 v) (ht : In3 t) (h : Ok w W) :
    Calls Tryz.prog 5 #[.agg #[.int .i64 u.1, .int .i64 u.2.1, .int .i64 u.2.2], .agg #[.int .i64 v.1, .int .i64 v.2.1, .int .i64 v.2.2], .agg #[.int .i64 t.1, .int .i64 t.2.1, .int .i64 t.2.2]] W fun e w' => e = .returned (.bool true) ∧ Ok w w' :=
  order_law u.1 u.2.1 u.2.2 v.1 v.2.1 v.2.2 t.1 t.2.1 t.2.2 w W hu.1 hu.2.1 hu.2.2 hv.1 hv.2.1 hv.2.2 ht.1 ht.2.1 ht.2.2 h
end Go.Proofs.YtiemlpmhhbmfiaaGreatDoor.civ
