/- Ends among the arguments. -/
import Derived.Test.YtjgaoajbcbpbbaaDoorEndTx
import Derived.Test.YtjgaoajbcbpbbaaDoorEndOrdL
import Derived.Test.YtjgaoajbcbpbbaaDoorEndNl
import Derived.Test.YtjgaoajbcbpbbaaDoorFrameG
namespace Go.Proofs.YtjgaoajbcbpbbaaDoor.end8
open Go.ChangeShapes Go.WideShapes Go.ChangeAt Go.RowKit

theorem cells2 : Tryd.prog.cellsOf 24 = 2 := by kernel_rfl
theorem cellsI : Tryd.prog.cellsOf 2 = 1 := by kernel_rfl
theorem cells8 : Tryd.prog.cellsOf 22 = 1 := by kernel_rfl
set_option maxRecDepth 100000 in
theorem one_int {H : Type} {enc : TypeId × Value → H} {W : World} {sp : Nat → Bool} {held : Bool} {t : TypeId} {n : Nat} {v : Value} {y : DataW H × List MemPlace} (ht : Tryd.prog.underlying t = some (.int .i64))
    (h : DataW.trod enc Tryd.prog W 0 sp held n t [v] = some y) : ∃ a, v = .int .i64 a ∧ I64 a := by
  obtain ⟨a, hc, _, hw⟩ := DataW.trod_int ht h
  injection hc with hc _
  exact ⟨a, hc, (bounds_i64 hw).1, (bounds_i64 hw).2⟩
set_option maxRecDepth 100000 in
theorem one_8 {H : Type} {enc : TypeId × Value → H} {W : World} {sp : Nat → Bool} {held : Bool} {t : TypeId} {n : Nat} {v : Value} {y : DataW H × List MemPlace} (ht : Tryd.prog.underlying t = some (.int .i8))
    (h : DataW.trod enc Tryd.prog W 0 sp held n t [v] = some y) : ∃ a, v = .int .i8 a ∧ I8 a := by
  obtain ⟨a, hc, _, hw⟩ := DataW.trod_int ht h
  injection hc with hc _
  exact ⟨a, hc, bounds_i8 hw⟩
def InE (u : Int × Int) : Prop := I8 u.1 ∧ I64 u.2
set_option maxRecDepth 100000 in
theorem open_e {H : Type} {enc : TypeId × Value → H} {W : World} {sp : Nat → Bool} {held : Bool} {r : Reach} {b0 : Nat} {v : Value} {d : DataW H} {ps : List MemPlace}
    (hval : Value.okWide Tryd.prog W r b0 24 v) (h : DataW.Trod enc Tryd.prog W 0 sp held 24 v d ps) : ∃ u : Int × Int, v = .agg #[.int .i8 u.1, .int .i64 u.2] ∧ InE u := by
  obtain ⟨cs, rfl, hsz⟩ := okWide_struct Tryd.underlying24 hval
  rw [cells2] at hsz
  obtain ⟨a, b, rfl⟩ : ∃ a b, cs = #[a, b] := by
    match cs, hsz with
    | ⟨[a, b]⟩, _ => exact ⟨a, b, rfl⟩
  obtain ⟨n, h⟩ := h
  obtain ⟨xs, m, _, _, _, hl, hf⟩ := DataW.trod_struct Tryd.underlying24 h
  match xs, hl with
  | [y0, y1], _ =>
    have e0 : (((Value.agg #[a, b]).cells.toList.drop 0).take (Tryd.prog.cellsOf 22)) = [a] := by rw [cells8]; rfl
    have h0 : DataW.trod enc Tryd.prog W 0 sp held m 22 [a] = some y0 := by rw [← e0]; exact hf 0 _ rfl
    have e1 : (((Value.agg #[a, b]).cells.toList.drop 1).take (Tryd.prog.cellsOf 2)) = [b] := by rw [cellsI]; rfl
    have h1 : DataW.trod enc Tryd.prog W 0 sp held m 2 [b] = some y1 := by rw [← e1]; exact hf 1 _ rfl
    obtain ⟨x0, rfl, g0⟩ := one_8 (v := a) Tryd.underlying22 h0
    obtain ⟨x1, rfl, g1⟩ := one_int (v := b) Tryd.underlying2 h1
    exact ⟨(x0, x1), rfl, g0, g1⟩

theorem order_law' (u v t : Int × Int) (w W : World) (hu : InE u) (hv : InE v) (ht : InE t) (h : Ok w W) :
    Calls Tryd.prog 3 #[.agg #[.int .i8 u.1, .int .i64 u.2], .agg #[.int .i8 v.1, .int .i64 v.2], .agg #[.int .i8 t.1, .int .i64 t.2]] W fun e w' => e = .returned (.bool true) ∧ Ok w w' :=
  order_law u.1 u.2 v.1 v.2 t.1 t.2 w W hu.1 hu.2 hv.1 hv.2 ht.1 ht.2 h
theorem next_law' (u v : Int × Int) (w W : World) (hu : InE u) (hv : InE v) (h : Ok w W) :
    Calls Tryd.prog 4 #[.agg #[.int .i8 u.1, .int .i64 u.2], .agg #[.int .i8 v.1, .int .i64 v.2]] W fun e w' => e = .returned (.bool true) ∧ Ok w w' :=
  next_law u.1 u.2 v.1 v.2 w W hu.1 hu.2 hv.1 hv.2 h
theorem text_law' (u : Int × Int) (w W : World) (hu : InE u) (h : Ok w W) :
    Calls Tryd.prog 5 #[.agg #[.int .i8 u.1, .int .i64 u.2]] W fun e w' => e = .returned (.bool true) ∧ Ok w w' := text_law u.1 u.2 w W hu.1 hu.2 h
end Go.Proofs.YtjgaoajbcbpbbaaDoor.end8
