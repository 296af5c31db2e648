/- An array of two numbers, and a struct of four, among the arguments. -/
import Derived.Test.YtlcilodpelmccaaDoorMonBtw
import Derived.Test.YtlcilodpelmccaaDoorMonKn
import Derived.Test.YtlcilodpelmccaaDoorFrameG
namespace Go.Proofs.YtlcilodpelmccaaDoor.mon
open Go.ChangeShapes Go.WideShapes Go.ChangeAt Go.RowKit

theorem cells2 : Tryd.prog.cellsOf 42 = 2 := by kernel_rfl
theorem cells4 : Tryd.prog.cellsOf 48 = 4 := by kernel_rfl
theorem cellsI : Tryd.prog.cellsOf 2 = 1 := by kernel_rfl
theorem cellsN : Tryd.prog.cellsOf 3 = 1 := by kernel_rfl
theorem okWide_array {P : Program} {w : World} {r : Reach} {base : Nat} {v : Value} {t e : TypeId} {n : Nat} (ht : P.underlying t = some (.array n e)) (h : Value.okWide P w r base t v) : ∃ cs, v = .agg cs ∧ cs.size = P.cellsOf t := by
  simp only [Value.okWide, ht] at h
  obtain ⟨cs, h1, h2, _⟩ := h
  exact ⟨cs, h1, h2⟩
/-- One number of an aggregate. -/
theorem one_int {H : Type} {enc : TypeId × Value → H} {W : World} {sp : Nat → Bool} {held : Bool} {t : TypeId} {n : Nat} {v : Value} {y : DataW H × List MemPlace} (ht : Tryd.prog.underlying t = some (.int .i64))
    (h : DataW.trod enc Tryd.prog W 0 sp held n t [v] = some y) : ∃ a, v = .int .i64 a ∧ -9223372036854775808 ≤ a ∧ a ≤ 9223372036854775807 := by
  obtain ⟨a, hc, _, hw⟩ := DataW.trod_int ht h
  injection hc with hc _
  exact ⟨a, hc, (bounds_i64 hw).1, (bounds_i64 hw).2⟩
def In2 (u : Int × Int) : Prop := (-9223372036854775808 ≤ u.1 ∧ u.1 ≤ 9223372036854775807) ∧ (-9223372036854775808 ≤ u.2 ∧ u.2 ≤ 9223372036854775807)
theorem open_2 {H : Type} {enc : TypeId × Value → H} {W : World} {sp : Nat → Bool} {held : Bool} {r : Reach} {b0 : Nat} {v : Value} {d : DataW H} {ps : List MemPlace}
    (hval : Value.okWide Tryd.prog W r b0 42 v) (h : DataW.Trod enc Tryd.prog W 0 sp held 42 v d ps) : ∃ u : Int × Int, v = .agg #[.int .i64 u.1, .int .i64 u.2] ∧ In2 u := by
  obtain ⟨cs, rfl, hsz⟩ := okWide_array Tryd.underlying42 hval
  rw [cells2] at hsz
  obtain ⟨a, b, rfl⟩ : ∃ a b, cs = #[a, b] := by
    match cs, hsz with
    | ⟨[a, b]⟩, _ => exact ⟨a, b, rfl⟩
  obtain ⟨n, h⟩ := h
  obtain ⟨xs, m, _, _, _, hl, hf⟩ := DataW.trod_array Tryd.underlying42 h
  match xs, hl with
  | [y0, y1], _ =>
    have h0 := hf 0 (by omega)
    have h1 := hf 1 (by omega)
    rw [cellsI] at h0 h1
    obtain ⟨x, rfl, hx⟩ := one_int (v := a) Tryd.underlying2 h0
    obtain ⟨z, rfl, hz⟩ := one_int (v := b) Tryd.underlying2 h1
    exact ⟨(x, z), rfl, hx, hz⟩
def In4 (u : Int × Int × Int × Int) : Prop := (-9223372036854775808 ≤ u.1 ∧ u.1 ≤ 9223372036854775807) ∧ (-9223372036854775808 ≤ u.2.1 ∧ u.2.1 ≤ 9223372036854775807) ∧ (-9223372036854775808 ≤ u.2.2.1 ∧ u.2.2.1 ≤ 9223372036854775807) ∧ (-9223372036854775808 ≤ u.2.2.2 ∧ u.2.2.2 ≤ 9223372036854775807)
theorem open_4 {H : Type} {enc : TypeId × Value → H} {W : World} {sp : Nat → Bool} {held : Bool} {r : Reach} {b0 : Nat} {v : Value} {d : DataW H} {ps : List MemPlace}
    (hval : Value.okWide Tryd.prog W r b0 48 v) (h : DataW.Trod enc Tryd.prog W 0 sp held 48 v d ps) : ∃ u : Int × Int × Int × Int, v = .agg #[.int .i64 u.1, .int .i64 u.2.1, .int .i64 u.2.2.1, .int .i64 u.2.2.2] ∧ In4 u := by
  obtain ⟨cs, rfl, hsz⟩ := okWide_struct Tryd.underlying48 hval
  rw [cells4] at hsz
  obtain ⟨a, b, c, e, rfl⟩ : ∃ a b c e, cs = #[a, b, c, e] := by
    match cs, hsz with
    | ⟨[a, b, c, e]⟩, _ => exact ⟨a, b, c, e, rfl⟩
  obtain ⟨n, h⟩ := h
  obtain ⟨xs, m, _, _, _, hl, hf⟩ := DataW.trod_struct Tryd.underlying48 h
  match xs, hl with
  | [y0, y1, y2, y3], _ =>
    have e0 : (((Value.agg #[a, b, c, e]).cells.toList.drop 0).take (Tryd.prog.cellsOf 2)) = [a] := by rw [cellsI]; rfl
    have h0 : DataW.trod enc Tryd.prog W 0 sp held m 2 [a] = some y0 := by rw [← e0]; exact hf 0 _ rfl
    have e1 : (((Value.agg #[a, b, c, e]).cells.toList.drop 1).take (Tryd.prog.cellsOf 2)) = [b] := by rw [cellsI]; rfl
    have h1 : DataW.trod enc Tryd.prog W 0 sp held m 2 [b] = some y1 := by rw [← e1]; exact hf 1 _ rfl
    have e2 : (((Value.agg #[a, b, c, e]).cells.toList.drop 2).take (Tryd.prog.cellsOf 3)) = [c] := by rw [cellsN]; rfl
    have h2 : DataW.trod enc Tryd.prog W 0 sp held m 3 [c] = some y2 := by rw [← e2]; exact hf 2 _ rfl
    have e3 : (((Value.agg #[a, b, c, e]).cells.toList.drop 3).take (Tryd.prog.cellsOf 3)) = [e] := by rw [cellsN]; rfl
    have h3 : DataW.trod enc Tryd.prog W 0 sp held m 3 [e] = some y3 := by rw [← e3]; exact hf 3 _ rfl
    obtain ⟨x0, rfl, g0⟩ := one_int (v := a) Tryd.underlying2 h0
    obtain ⟨x1, rfl, g1⟩ := one_int (v := b) Tryd.underlying2 h1
    obtain ⟨x2, rfl, g2⟩ := one_int (v := c) Tryd.underlying3 h2
    obtain ⟨x3, rfl, g3⟩ := one_int (v := e) Tryd.underlying3 h3
    exact ⟨(x0, x1, x2, x3), rfl, g0, g1, g2, g3⟩

theorem add_law' (y m : Int) (u : Int × Int) (w W : World) (y0 : -9223372036854775808 ≤ y) (y1 : y ≤ 9223372036854775807) (m0 : -9223372036854775808 ≤ m) (m1 : m ≤ 9223372036854775807) (hu : In2 u) (h : Ok w W) :
    Calls Tryd.prog 5 #[.int .i64 y, .int .i64 m, .agg #[.int .i64 u.1, .int .i64 u.2]] W fun e w' => e = .returned (.bool true) ∧ Ok w w' :=
  add_law y m u.1 u.2 w W y0 y1 m0 m1 hu.1.1 hu.1.2 hu.2.1 hu.2.2 h
theorem between_law' (u : Int × Int × Int × Int) (w W : World) (hu : In4 u) (h : Ok w W) :
    Calls Tryd.prog 6 #[.agg #[.int .i64 u.1, .int .i64 u.2.1, .int .i64 u.2.2.1, .int .i64 u.2.2.2]] W fun e w' => e = .returned (.bool true) ∧ Ok w w' :=
  between_law u.1 u.2.1 u.2.2.1 u.2.2.2 w W hu.1.1 hu.1.2 hu.2.1.1 hu.2.1.2 hu.2.2.1.1 hu.2.2.1.2 hu.2.2.2.1 hu.2.2.2.2 h
end Go.Proofs.YtlcilodpelmccaaDoor.mon
